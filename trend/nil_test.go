package trend

import (
	"testing"

	"cupel/api"
	"cupel/cas"
)

// Promise 8.3, by which a nil store answers ErrArg: each call's answer, whatever the commit; so does a store that cas.New did not make.
func TestNilStore(t *testing.T) {
	for what, c := range map[string]*cas.Store{"a nil store": nil, "one that New did not make": {}} {
		for _, id := range []string{"", "none", cas.ID(increment, ""), string(make([]byte, 100000))} {
			nothing(t, what, c, id, api.ErrArg)
		}
	}
}
