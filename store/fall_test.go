package store

import (
	"fmt"
	"math/rand"
	"slices"
	"testing"

	"cupel/api"
	"cupel/disk"
)

// oneOf tells that a disk, opened, has what one of some models has: which one.
func oneOf(t *testing.T, name string, d *disk.Disk, models ...model) model {
	t.Helper()
	c := d.Clone()
	c.Plan(nil)
	c.Up()
	told := words(opened(t, c), "")
	i := slices.IndexFunc(models, func(m model) bool { return m.words("") == told })
	if i < 0 {
		t.Fatalf("%s: it has %.300s", name, told)
	}
	reopened(t, name, d, models[i])
	return models[i]
}

// struck opens a disk with a fall so many changes from now on, and then again, with others, so often; behind all of them it has what a model has.
func struck(t *testing.T, name string, d *disk.Disk, m model, f api.Fall, more int) {
	t.Helper()
	c := d.Clone()
	c.Up()
	ahead := c.Changes()
	c.Plan([]api.Fall{{At: ahead + f.At, Keep: f.Keep, Torn: f.Torn}})
	s, e := Open(c)
	if e != api.OK {
		same(t, name+": Open", e, api.ErrDead)
		same(t, name+": the store", s, nil)
		same(t, name+": changes", c.Changes(), ahead+f.At)
	} else {
		has(t, name, s, m)
	}
	if more > 0 {
		for at := range 2 {
			for keep := range 3 {
				struck(t, name, c, m, api.Fall{At: at, Keep: keep}, more-1)
			}
		}
	}
	reopened(t, name, c, m)
}

// openings tells that a disk has what a model has, whatever falls befall its openings.
func openings(t *testing.T, name string, d *disk.Disk, m model) {
	t.Helper()
	reopened(t, name, d, m)
	for at := range 3 {
		for keep := range 4 {
			struck(t, fmt.Sprintf("%s, a fall at %d of the opening, %d kept", name, at, keep), d, m, api.Fall{At: at, Keep: keep, Torn: at}, 1)
		}
	}
}

// falls does something on copies of a disk, with falls at each of its changes: behind each one stands what was there, or what is there behind it. How many changes it has is told.
func falls(t *testing.T, name string, d *disk.Disk, before, after model, do func(*Store) api.Errno) int {
	t.Helper()
	const most = 5 // changes of the disk
	for at := range most {
		for keep := range 4 {
			for _, torn := range []int{0, 1, 30, 1 << 20} {
				c := d.Clone()
				s := opened(t, c)
				c.Plan([]api.Fall{{At: c.Changes() + at, Keep: keep, Torn: torn}})
				e := do(s)
				if e == api.OK {
					sure(t, name, c, s, after)
					return at
				}
				same(t, name, e, api.ErrDead)
				m := oneOf(t, fmt.Sprint(name, ", a fall at ", at), c, before, after)
				if keep == 0 && torn == 0 {
					openings(t, name, c, m)
				}
			}
		}
	}
	t.Errorf("%s: it ends with no fewer than %d changes of the disk", name, most)
	return most
}

// changesets is changes of each kind, for a store with the numbers from 100 on.
func changesets() [][]api.Change {
	return [][]api.Change{
		nil,
		puts("a"),
		{gone("100")},
		{gone("none")},
		append(puts(numbers(150, 60)...), gone("103"), gone("104")),
		{put("100", "other"), gone("101"), put("102", ""), put("zzz", longestValue)},
	}
}

// Promise 7.3: the power fails at any change of an Apply.
func TestFallsOfApply(t *testing.T) {
	for _, n := range []int{0, 5, 40} {
		before := model{}.with(puts(numbers(100, n)...)...)
		_, d := filled(t, before)
		for _, l := range changesets() {
			after := before.with(l...)
			name := fmt.Sprintf("%d keys, %d changes", n, len(l))
			changes := falls(t, name, d, before, after, func(s *Store) api.Errno { return s.Apply(l) })
			same(t, name+": changes of the disk", changes, 1)
		}
	}
}

// Promise 7.3: the power fails while an Apply's change of the disk is loose: all of its changes are there, or none, however much was put.
func TestTornApply(t *testing.T) {
	for _, n := range []int{0, 5} {
		before := model{}.with(puts(numbers(100, n)...)...)
		_, d := filled(t, before)
		l := []api.Change{put("a", "1"), gone("101"), put("b", "2")}
		after := before.with(l...)
		c := d.Clone()
		ok(t, "Apply", opened(t, c).Apply(l))
		more := fileOf(c)[len(fileOf(d)):]
		for torn := range len(more) + 2 {
			c := d.Clone()
			ok(t, "Append", c.Append("log", more))
			c.Crash(0, torn)
			m := before
			if torn >= len(more) {
				m = after
			}
			openings(t, fmt.Sprint(torn, " bytes were put"), c, m)
		}
		c = d.Clone()
		ok(t, "Append", c.Append("log", more))
		c.Crash(1, 0)
		openings(t, "it was kept", c, after)
	}
}

// Promise 7.3, T2: the power fails at any change of a Compact, or while one of its changes of the disk is loose.
func TestFallsOfCompact(t *testing.T) {
	for _, n := range []int{0, 5, 40} {
		m := model{}.with(puts(numbers(100, n)...)...)
		_, d := filled(t, m)
		changes := falls(t, "Compact", d, m, m, (*Store).Compact)
		same(t, "changes of the disk", changes, 2)
		c := d.Clone()
		ok(t, "Compact", opened(t, c).Compact())
		for _, torn := range []int{0, 1, 5, 20, 100, c.Used() - 1, c.Used()} {
			half := d.Clone()
			ok(t, "Write", half.Write("log.new", fileOf(c)))
			half.Crash(0, torn)
			openings(t, fmt.Sprint(torn, " bytes of the log anew"), half, m)
		}
		for keep := range 2 {
			half := d.Clone()
			ok(t, "Write", half.Write("log.new", fileOf(c)))
			ok(t, "Sync", half.Sync())
			ok(t, "Move", half.Move("log.new", "log"))
			half.Crash(keep, 0)
			openings(t, "moved, or not", half, m)
		}
	}
}

// Promise 7.3, T2: the power fails at any change of an Apply behind which the log is laid anew.
func TestFallsWhileLaidAnewByItself(t *testing.T) {
	before := model{}.with(puts(numbers(100, 20)...)...)
	s, d := filled(t, before)
	l := []api.Change{put("a", "1"), gone("110")}
	for i := range 10 {
		l = append(l, put("z", longestValue[i:])) // a page for each of them
	}
	after := before.with(l...)
	changes := falls(t, "Apply", d, before, after, func(s *Store) api.Errno { return s.Apply(l) })
	same(t, "changes of the disk", changes, 3)
	ok(t, "Apply", s.Apply(l))
	laid(t, "Apply", d, s)
	sure(t, "Apply", d, s, after)
}

// Promise T2: the power fails at any change of an opening that has something to put right.
func TestFallsOfOpenings(t *testing.T) {
	m := model{}.with(puts(numbers(100, 12)...)...)
	_, d := filled(t, m)
	file := fileOf(d)
	for _, tail := range []string{"", "x", rec(leaf("a")), rooted(0)[:5], rec("no page"), framed("x"), framed("")} {
		for _, other := range []string{"", "x", rec(leaf("z")) + rooted(0)} {
			c := with(t, file+tail)
			if other != "" {
				ok(t, "Write", c.Write("log.new", other))
				ok(t, "Sync", c.Sync())
			}
			openings(t, fmt.Sprintf("%q behind it, %q beside it", tail, other), c, m)
		}
	}
}

// player plays calls by chance on a store, and on a model of it.
type player struct {
	t     *testing.T
	r     *rand.Rand
	d     *disk.Disk
	s     *Store
	m     model
	roots map[int]model // by places that Snapshot told since the log was laid anew
	laid  int           // how often it was, by itself
}

// changes is a list of changes, which may have too many, or one that may not be: the error that it asks for.
func (p *player) changes() ([]api.Change, api.Errno) {
	var l []api.Change
	n := p.r.Intn(7)
	want := api.OK
	switch p.r.Intn(12) {
	case 0:
		n, want = api.MaxBatch+1+p.r.Intn(2), api.ErrMany
	case 1:
		n = api.MaxBatch
	case 2:
		l, want = puts(""), api.ErrArg
	}
	for range n {
		key := fmt.Sprint(p.r.Intn(60))
		switch p.r.Intn(5) {
		case 0, 1:
			l = append(l, gone(key))
		case 2:
			l = append(l, put(key, longestValue[:p.r.Intn(3000)]))
		default:
			l = append(l, put(key, fmt.Sprint(p.r.Intn(1000))))
		}
	}
	p.r.Shuffle(len(l), func(i, k int) { l[i], l[k] = l[k], l[i] })
	return l, want
}

// plan lays a fall at one of the next changes, or none.
func (p *player) plan() {
	p.d.Plan(nil)
	if p.r.Intn(6) == 0 {
		p.d.Plan([]api.Fall{{At: p.d.Changes() + p.r.Intn(4), Keep: p.r.Intn(4), Torn: p.r.Intn(100)}})
	}
}

// apply applies changes to both.
func (p *player) apply() {
	l, want := p.changes()
	e := p.s.Apply(l)
	next := p.m.with(l...)
	switch {
	case want != api.OK:
		same(p.t, "Apply of what may not be", e, want)
	case e == api.OK:
		p.m = next
		if p.s.Len() == p.s.began { // the changes alone would have made it longer
			p.laid++
			p.roots = map[int]model{}
		}
	case e == api.ErrDead:
		p.m = oneOf(p.t, "Apply", p.d, p.m, next)
		p.stand()
	default:
		same(p.t, "Apply's error", e, api.ErrFull)
	}
}

// compact lays the log of the store anew.
func (p *player) compact() {
	e := p.s.Compact()
	switch e {
	case api.OK:
		p.roots = map[int]model{}
		laid(p.t, "Compact", p.d, p.s)
	case api.ErrDead:
		oneOf(p.t, "Compact", p.d, p.m)
		p.stand()
	default:
		same(p.t, "Compact's error", e, api.ErrFull)
	}
}

// stand lets the power fail, if it has not, and opens the store again, perhaps with falls.
func (p *player) stand() {
	p.d.Crash(p.r.Intn(4), p.r.Intn(50))
	for p.d.Up() {
		p.plan()
		s, e := Open(p.d)
		p.s = s
		if e != api.OK {
			same(p.t, "Open", e, api.ErrDead)
		}
	}
	p.d.Plan(nil)
}

// hold holds the store against the model.
func (p *player) hold() {
	p.t.Helper()
	has(p.t, "the store", p.s, p.m)
	head := fmt.Sprint(p.r.Intn(10))
	same(p.t, "All of "+head, words(p.s, head), p.m.words(head))
	p.roots[p.s.Snapshot()] = p.m
	for root, m := range p.roots {
		key := fmt.Sprint(p.r.Intn(60))
		want, is := m[key]
		value, e := p.s.At(root, key)
		same(p.t, "At", value, want)
		same(p.t, "At's error", e == api.OK, is)
	}
}

// Promises 7.1 to 7.3, T2: calls by chance, falls and no room among them, against a map.
func TestByChance(t *testing.T) {
	by := 0
	for seed := range 25 {
		r := rand.New(rand.NewSource(int64(seed)))
		s, d := fresh(t)
		p := &player{t: t, r: r, d: d, s: s, m: model{}, roots: map[int]model{}}
		for range 120 {
			d.Room(-1)
			if r.Intn(5) == 0 {
				d.Room(d.Used() + r.Intn(20000))
			}
			p.plan()
			switch r.Intn(30) {
			case 0:
				p.compact()
			case 1:
				p.stand()
			default:
				p.apply()
			}
			p.hold()
			if t.Failed() {
				t.Fatal("seed ", seed)
			}
		}
		by += p.laid
		d.Room(-1)
		d.Crash(0, 0)
		reopened(t, "at the end", d, p.m)
	}
	same(t, "logs were laid anew by themselves", by > 20, true)
}
