package cas

import (
	"fmt"
	"math/rand"
	"slices"
	"testing"

	"cupel/api"
	"cupel/disk"
	"cupel/store"
)

// action is something that is done to a shelf, and what the shelf has then.
type action struct {
	name  string
	do    func(*Store) api.Errno
	after model
	quiet bool // whether nothing is to be laid
}

// putting, adding, keeping and laying are actions on a shelf that has what a model has.
func putting(m model, s string) action {
	_, quiet := m.blobs[textDigest(s)]
	return action{fmt.Sprintf("Put of %.20q", s), func(c *Store) api.Errno {
		_, e := c.Put(s)
		return e
	}, m.with(s), quiet}
}

func adding(m model, source, parent string) action {
	after := m.behind(source, parent)
	return action{fmt.Sprintf("Add of %.20q", source), func(c *Store) api.Errno {
		_, e := c.Add(source, parent)
		return e
	}, after, len(after.commits) == len(m.commits)}
}

func keeping(m model, keys []string, l []int) action {
	return action{fmt.Sprintf("Keep of %d", len(keys)), func(c *Store) api.Errno {
		return c.Keep(keys, l)
	}, m.found(keys, l), false}
}

func laying(m model) action {
	return action{"Compact", (*Store).Compact, m, false}
}

// actions is some of each kind.
func actions(m model) []action {
	l := []action{
		putting(m, "new"), putting(m, ""), putting(m, longestText), putting(m, "source 0"),
		adding(m, "new", ""), adding(m, longestText, ""), adding(m, "text 0", ""), adding(m, "source 0", ""),
		keeping(m, []string{"new"}, []int{1}), keeping(m, []string{"key 000", "new", "key 001"}, []int{200, 1, 0}), keeping(m, keys(64), numbers(64)), keeping(m, nil, nil),
		laying(m),
	}
	if len(m.commits) > 0 {
		last := m.commits[len(m.commits)-1].ID
		l = append(l, adding(m, "new", last), adding(m, "source 0", last), adding(m, "text 0", m.commits[0].ID))
	}
	return l
}

// filled is a shelf with n commits, texts and verdicts, and what it has.
func filled(t *testing.T, n int) (shelf, model) {
	t.Helper()
	x, m := fresh(t), model{}
	for i := range n {
		source, parent := fmt.Sprint("source ", i), ""
		if i%4 > 0 {
			parent = m.commits[i/2].ID
		}
		x.add(t, source, parent)
		x.put(t, fmt.Sprint("text ", i))
		x.keep(t, keys(i + 1)[i], i)
		m = m.behind(source, parent).with(fmt.Sprint("text ", i)).found(keys(i + 1)[i:], []int{i})
	}
	return x, m
}

// oneOf tells that a disk, opened, has what one of some models has: which one.
func oneOf(t *testing.T, name string, d *disk.Disk, models ...model) model {
	t.Helper()
	c := d.Clone()
	c.Plan(nil)
	c.Up()
	told := opened(t, c).words()
	i := slices.IndexFunc(models, func(m model) bool { return m.words() == told })
	if i < 0 {
		t.Fatalf("%s: it has %.300s", name, told)
	}
	reopened(t, name, d, models[i])
	return models[i]
}

// fallsOf does an action on copies of a shelf, with falls at each of its changes of the disk: behind each one stands what was there, or what is there behind the action. How many changes it has is told.
func fallsOf(t *testing.T, name string, x shelf, before model, a action) int {
	t.Helper()
	const most = 5
	for at := range most {
		for keep := range 4 {
			for _, torn := range []int{0, 1, 40, 1 << 20} {
				y := x.copied(t)
				y.disk.Plan([]api.Fall{{At: y.disk.Changes() + at, Keep: keep, Torn: torn}})
				e := a.do(y.Store)
				if e == api.OK {
					sure(t, name, y, a.after)
					return at
				}
				same(t, name, e, api.ErrDead)
				m := oneOf(t, fmt.Sprint(name, ", a fall at ", at), y.disk, before, a.after)
				again(t, name, y.disk, m, a)
			}
		}
	}
	t.Errorf("%s: it ends with no fewer than %d changes of the disk", name, most)
	return most
}

// again does an action once more behind a fall: then all of it stands, whether it stood before or not.
func again(t *testing.T, name string, d *disk.Disk, m model, a action) {
	t.Helper()
	d = d.Clone()
	d.Plan(nil)
	d.Up()
	y := opened(t, d)
	has(t, name+", stood up", y, m)
	ok(t, name+", done again", a.do(y.Store))
	sure(t, name+", done again", y, a.after)
}

// Promises 8.1 to 8.3, T2: the power fails at any change of a Put, an Add, a Keep and a Compact.
func TestFalls(t *testing.T) {
	for _, n := range []int{0, 1, 6} {
		x, m := filled(t, n)
		for _, a := range actions(m) {
			name := fmt.Sprint(a.name, " beside ", n)
			want := 1
			switch {
			case a.quiet:
				want = 0
			case a.name == "Compact":
				want = 2
			}
			same(t, name+": changes of the disk", fallsOf(t, name, x, m, a), want)
		}
	}
}

// Promises 8.1, 8.2, T2: the power fails while the change of the disk is loose: all of an Add is there, or none, however much was put.
func TestTornAdd(t *testing.T) {
	x, m := filled(t, 2)
	y := x.copied(t)
	a := adding(m, "new", m.commits[1].ID)
	ok(t, a.name, a.do(y.Store))
	old, _ := x.disk.Read("log")
	file, _ := y.disk.Read("log")
	more := file[len(old):]
	for torn := range len(more) + 2 {
		d := x.disk.Clone()
		ok(t, "Append", d.Append("log", more))
		d.Crash(0, torn)
		d.Up()
		want := m
		if torn >= len(more) {
			want = a.after
		}
		has(t, fmt.Sprint(torn, " bytes were put"), opened(t, d), want)
	}
}

// heavy is a shelf of eight long texts in one page, just laid anew, and what it has: what puts a key there has to lay the page again, and makes the log twice as long.
func heavy(t *testing.T) (shelf, model) {
	t.Helper()
	x, m := fresh(t), model{}
	for i := range api.MaxKeys {
		s := fmt.Sprint(i, longestText[1:])
		x.put(t, s)
		m = m.with(s)
	}
	ok(t, "Compact", x.Compact())
	sure(t, "long texts", x, m)
	return x, m
}

// Promises 8.1 to 8.3, T2: the power fails at any change of what is done while the log is laid anew by itself.
func TestFallsWhileLaidAnew(t *testing.T) {
	x, m := heavy(t)
	for _, a := range []action{
		putting(m, longestText), adding(m, longestText, ""), adding(m, fmt.Sprint(3, longestText[1:]), ""), keeping(m, []string{"new"}, []int{1}), keeping(m, keys(64), numbers(64)),
	} {
		same(t, a.name+": changes of the disk", fallsOf(t, a.name, x, m, a), 3)
	}
}

// Promises 8.1, 8.2: where the log can't be laid anew for want of room, what was done stands, and is told.
func TestNoRoomToLayAnew(t *testing.T) {
	x, m := fresh(t), model{}
	for i := range 60 {
		source := fmt.Sprint(i) + longestText[:3000]
		x.disk.Room(x.disk.Used() + 50000)
		commit := x.add(t, source, "")
		m = m.behind(source, "")
		same(t, "the commit", commit, m.commits[i])
	}
	sure(t, "no room", x, m)
	same(t, "its log has grown", x.raw.Len() > 1<<18, true)
	x.disk.Room(-1)
	x.add(t, "one more", "")
	same(t, "its log was laid anew", x.raw.Len() < 1<<18, true)
	sure(t, "room", x, m.behind("one more", ""))
}

// player plays calls by chance on a shelf, and on a model of it.
type player struct {
	t *testing.T
	r *rand.Rand
	x shelf
	m model
	n [3]int // how often it was done, had no room, had no power
}

// text is one of a few texts, some of them long.
func (p *player) text() string {
	s := fmt.Sprint("text ", p.r.Intn(25))
	return s + longestText[:p.r.Intn(25)/20*p.r.Intn(4000)]
}

// id is the ID of a commit, or an empty one.
func (p *player) id() string {
	if len(p.m.commits) == 0 || p.r.Intn(5) == 0 {
		return ""
	}
	return p.m.commits[p.r.Intn(len(p.m.commits))].ID
}

// act is an action by chance.
func (p *player) act() action {
	switch p.r.Intn(8) {
	case 0, 1:
		return putting(p.m, p.text())
	case 2, 3, 4:
		return adding(p.m, p.text(), p.id())
	case 5, 6:
		n := p.r.Intn(20)
		l, verdicts := make([]string, n), make([]int, n)
		for i := range n {
			l[i], verdicts[i] = keys(40)[p.r.Intn(40)], p.r.Intn(256)
		}
		return keeping(p.m, l, verdicts)
	}
	return laying(p.m)
}

// play does an action by chance, perhaps with a fall, or with little room.
func (p *player) play() {
	d := p.x.disk
	d.Room(-1)
	if p.r.Intn(5) == 0 {
		d.Room(d.Used() + p.r.Intn(20000))
	}
	d.Plan(nil)
	if p.r.Intn(5) == 0 {
		d.Plan([]api.Fall{{At: d.Changes() + p.r.Intn(3), Keep: p.r.Intn(4), Torn: p.r.Intn(3000)}})
	}
	a := p.act()
	switch e := a.do(p.x.Store); e {
	case api.OK:
		p.m = a.after
		p.n[0]++
	case api.ErrDead:
		p.n[2]++
		p.m = oneOf(p.t, a.name, d, p.m, a.after)
		p.stand()
	default:
		same(p.t, a.name, e, api.ErrFull)
		p.n[1]++
	}
}

// stand opens the shelf again, perhaps with falls.
func (p *player) stand() {
	d := p.x.disk
	for d.Up() {
		d.Plan([]api.Fall{{At: d.Changes() + p.r.Intn(2), Keep: p.r.Intn(2)}})
		s, e := store.Open(d)
		if e != api.OK {
			same(p.t, "Open", e, api.ErrDead)
			continue
		}
		d.Plan(nil)
		c, e := New(s)
		ok(p.t, "New", e)
		p.x = shelf{c, s, d}
	}
}

// Promises 8.1 to 8.3, T2: calls by chance, falls and no room among them, against a model.
func TestByChance(t *testing.T) {
	var n [3]int
	for seed := range 25 {
		p := &player{t: t, r: rand.New(rand.NewSource(int64(seed))), x: fresh(t)}
		for range 80 {
			p.play()
			has(t, "the shelf", p.x, p.m)
			if t.Failed() {
				t.Fatal("seed ", seed)
			}
		}
		p.x.disk.Room(-1)
		sure(t, "at the end", p.x, p.m)
		for i := range n {
			n[i] += p.n[i]
		}
	}
	same(t, fmt.Sprint("each came often enough: ", n), slices.Min(n[:]) > 50, true)
}
