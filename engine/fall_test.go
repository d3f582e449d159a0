package engine

import (
	"fmt"
	"testing"

	"cupel/api"
	"cupel/disk"
)

// Promises 18.2 and T2: the power fails at any change of the disk, with any of what is loose kept or torn: Whole answers an error, verdicts that are kept are the definition's, sixteen at a time, and behind that the matrix is found with these.
func TestFalls(t *testing.T) {
	p := parsed(t, sumOf(40))
	want, truth := defined(t, p), map[string]int{}
	learn(t, p, want, truth)
	for at, kept := range []int{0, 16, 32, 40} {
		for keep := range 2 {
			for _, torn := range []int{0, 1, 100, 1 << 20} {
				x := fresh(t)
				x.disk.Plan([]api.Fall{{At: at, Keep: keep, Torn: torn}})
				m, stats, e := Whole(x.Store, p)
				if at == 3 {
					same(t, "changes of the disk", x.disk.Changes(), 3)
					ok(t, "no change is so late", e)
					alike(t, "no fall", m, want)
					same(t, "Stats", stats, api.Stats{Run: 40})
					continue
				}
				same(t, "Whole", e, api.ErrDead)
				same(t, "Stats beside it", stats, api.Stats{})
				same(t, "the matrix beside it", told(m), "")
				behindFall(t, fmt.Sprint("a fall at ", at), x.disk, p, want, truth, kept)
			}
		}
	}
}

// behindFall tells that a disk whose power failed has so many verdicts, all by the definition, and what is found with them.
func behindFall(t *testing.T, what string, d *disk.Disk, p api.Node, want api.Matrix, truth map[string]int, kept int) {
	t.Helper()
	d.Up()
	for _, stats := range []api.Stats{{Run: len(truth) - kept, Kept: kept}, {Kept: len(truth)}} {
		x := opened(t, d)
		same(t, what+": verdicts", len(x.Verdicts()), kept)
		same(t, what+": Stats", wholly(t, what, x, p, want, truth), stats)
		kept = len(truth)
	}
}

// Promise T2: the power fails between two steps: the verdicts that were kept are there, those that waited are gone.
func TestFallsBetweenSteps(t *testing.T) {
	p := parsed(t, sumOf(20))
	want, truth := defined(t, p), map[string]int{}
	learn(t, p, want, truth)
	for at := range 21 {
		x := fresh(t)
		w := begun(t, x.Store, p)
		for range at {
			ok(t, "Step", w.Step())
		}
		x.disk.Crash(0, 0)
		kept := at / 16 * 16
		if at == 20 {
			kept = 20
		}
		behindFall(t, fmt.Sprint("a fall behind step ", at), x.disk, p, want, truth, kept)
	}
}

// Promises 18.2 and T2: chance programs, whose power fails again and again while a family of them is found.
func TestFallsByChance(t *testing.T) {
	rnd := chance(5)
	falls, found := 0, 0
	for range 12 {
		x, truth := fresh(t), map[string]int{}
		p := sharpened(rnd, 80)
		for range 5 {
			want := defined(t, p)
			learn(t, p, want, truth)
			for {
				before := x.Verdicts()
				x.disk.Plan([]api.Fall{{At: x.disk.Changes() + rnd.Intn(6), Keep: rnd.Intn(4), Torn: rnd.Intn(2000)}})
				m, stats, e := Whole(x.Store, p)
				x.disk.Plan(nil)
				if e == api.OK {
					found++
					alike(t, "between falls", m, want)
					break
				}
				falls++
				same(t, "Whole", e, api.ErrDead)
				same(t, "Stats beside it", stats, api.Stats{})
				x = x.again(t)
				stayed(t, before, x.Verdicts(), truth)
			}
			wholly(t, "behind falls", x, p, want, truth)
			p = kin(rnd, p)
		}
	}
	if falls < 20 || found < 60 {
		t.Errorf("too few of a sort: %d, %d", falls, found)
	}
}

// stayed tells that verdicts that were kept are kept, and that all others are the definition's.
func stayed(t *testing.T, before, now, truth map[string]int) {
	t.Helper()
	for key, n := range before {
		verdict, is := now[key]
		same(t, "a verdict that was kept", verdict, n)
		same(t, "whether it is there", is, true)
	}
	for key, n := range now {
		same(t, "a verdict by the definition", n, truth[key])
	}
}

// Promise T2: verdicts stay while the log is laid anew by itself: a matrix with so many that it is, and the power fails at any change of the disk.
func TestLogLaidAnew(t *testing.T) {
	const n = 240
	x := fresh(t)
	p := parsed(t, sumOf(n))
	want, truth := defined(t, p), map[string]int{}
	learn(t, p, want, truth)
	wholly(t, "no fall", x, p, want, truth)
	changes := x.disk.Changes()
	if changes <= n/16 {
		t.Errorf("the log was not laid anew: %d changes of the disk", changes)
	}
	last := 0
	for at := range changes {
		x := fresh(t)
		x.disk.Plan([]api.Fall{{At: at, Keep: at % 4, Torn: 500 * (at % 3)}})
		wholeFails(t, "a fall", x.Store, p, api.ErrDead)
		x.disk.Up()
		x = opened(t, x.disk)
		kept := len(x.Verdicts())
		if kept%16 > 0 || kept < last || kept > last+16 {
			t.Errorf("a fall at %d: %d verdicts, at the change ahead of it %d", at, kept, last)
		}
		last = kept
		behindFall(t, fmt.Sprint("a fall at ", at), x.disk, p, want, truth, kept)
	}
	same(t, "verdicts ahead of the last changes", last >= n-16, true)
}
