package engine

import (
	"reflect"
	"testing"

	"cupel/api"
	"cupel/cas"
)

// Promise 18.1: a nil one: ErrArg, Done true, nothing; so does one that New did not make.
func TestNil(t *testing.T) {
	for what, w := range map[string]*Work{"nil": nil, "one that New did not make": {}} {
		for range 3 {
			same(t, what+": Step", w.Step(), api.ErrArg)
			same(t, what+": Done", w.Done(), true)
			same(t, what+": At", w.At(), 0)
			same(t, what+": Total", w.Total(), 0)
			same(t, what+": Stats", w.Stats(), api.Stats{})
			m, all := w.Matrix()
			same(t, what+": whether all was found", all, false)
			if !reflect.DeepEqual(m, api.Matrix{}) {
				t.Errorf("%s: the matrix %v", what, m)
			}
		}
	}
}

// Rule R1: a store that cas.New did not make has nothing, and keeps nothing: cas.Keep's error.
func TestStoreOfNothing(t *testing.T) {
	c := &cas.Store{}
	p := parsed(t, sumOf(20))
	w := begun(t, c, p)
	for i := range 20 {
		e := api.OK
		if i >= 15 {
			e = api.ErrArg
		}
		same(t, "Step", w.Step(), e)
	}
	m, all := w.Matrix()
	same(t, "whether all was found", all, true)
	alike(t, "with a store of nothing", m, defined(t, p))
	same(t, "Done", w.Done(), false)
	same(t, "Stats", w.Stats(), api.Stats{Run: 20})
	wholeFails(t, "a store of nothing", c, p, api.ErrArg)
}
