package wal

import (
	"encoding/binary"
	"fmt"
	"hash/adler32"
	"math"
	"math/rand"
	"slices"
	"strings"
	"testing"

	"cupel/api"
	"cupel/disk"
)

// framed is a frame, by the library.
func framed(s string) string {
	b := binary.LittleEndian.AppendUint32(nil, uint32(len(s)))
	b = append(b, s...)
	return string(binary.LittleEndian.AppendUint32(b, adler32.Checksum(b)))
}

// rec and mark are the frames of a record and of a marker.
func rec(s string) string  { return framed("d" + s) }
func mark(s string) string { return framed("m" + s) }

// unframed is the text of the frame with which bytes begin, how long the frame is, and whether there is one.
func unframed(s string) (string, int, bool) {
	if len(s) < 8 {
		return "", 0, false
	}
	n := int(binary.LittleEndian.Uint32([]byte(s)))
	if n > len(s)-8 {
		return "", 0, false
	}
	whole := s[:n+8]
	return whole[4 : n+4], len(whole), framed(whole[4:n+4]) == whole
}

// model is what the chapter's words make of a log: frames as they lie, or will lie, behind one another.
type model struct {
	sure  []string // the frames' texts, d or m ahead of each
	waits []string
}

// modelOf is what a file holds, up to the last marker.
func modelOf(file string) model {
	var all []string
	last := 0
	for {
		s, n, is := unframed(file)
		if !is || s == "" || s[0] != 'd' && s[0] != 'm' {
			break
		}
		all = append(all, s)
		if s[0] == 'm' {
			last = len(all)
		}
		file = file[n:]
	}
	return model{sure: all[:last:last]}
}

// bytesOf is the bytes of frames.
func bytesOf(l []string) string {
	s := ""
	for _, x := range l {
		s += framed(x)
	}
	return s
}

// state is all that can be seen of a log: what it says, and the records by the places at which one is found.
type state struct {
	root       string
	is         bool
	len, waits int
	records    string
}

// looks is what a model says of a log.
func (m model) looks() state {
	x := state{len: len(bytesOf(m.sure)), waits: len(bytesOf(m.waits))}
	at := 0
	for _, s := range slices.Concat(m.sure, m.waits) {
		if s[0] == 'd' {
			x.records += fmt.Sprintf("%d:%q ", at, s[1:])
		} else {
			x.root, x.is = s[1:], true
		}
		at += len(framed(s))
	}
	return x
}

// look is a log's state, by asking for a record at every place, and at some outside.
func look(t *testing.T, l *Log) state {
	t.Helper()
	x := state{len: l.Len(), waits: l.Waits()}
	x.root, x.is = l.Root()
	for at := -3; at < x.len+x.waits+3; at++ {
		s, e := l.Read(at)
		if e == api.OK {
			x.records += fmt.Sprintf("%d:%q ", at, s)
		} else if e != api.ErrNone || s != "" {
			t.Errorf("Read(%d): %q, %v", at, s, e)
		}
	}
	return x
}

// same holds two comparable answers against each other.
func same[T comparable](t *testing.T, name string, got, want T) {
	t.Helper()
	if got != want {
		t.Errorf("%s: %#v, not %#v", name, got, want)
	}
}

// ok tells that a call answered no error.
func ok(t *testing.T, name string, e api.Errno) {
	t.Helper()
	same(t, name, e, api.OK)
}

// opened is the log of a disk that opens.
func opened(t *testing.T, d *disk.Disk) *Log {
	t.Helper()
	l, _, e := Open(d)
	if e != api.OK || l == nil {
		t.Fatalf("Open: %v, %v", l, e)
	}
	return l
}

// with is a disk whose file log has these bytes, which are sure.
func with(t *testing.T, file string) *disk.Disk {
	t.Helper()
	d := disk.New()
	ok(t, "Write", d.Write("log", file))
	ok(t, "Sync", d.Sync())
	return d
}

// fileOf is a file's bytes, and whether it is there; of a dead disk, too.
func fileOf(d *disk.Disk, name string) (string, bool) {
	c := d.Clone()
	c.Up()
	s, e := c.Read(name)
	return s, e == api.OK
}

// put appends a record, which must be taken.
func put(t *testing.T, l *Log, s string) int {
	t.Helper()
	at, e := l.Append(s)
	ok(t, "Append", e)
	return at
}

// files holds the disk's files against what they must be, and tells that all of it is sure.
func files(t *testing.T, name string, d *disk.Disk, want string) {
	t.Helper()
	same(t, name+": loose changes", d.Loose(), 0)
	same(t, name+": names", strings.Join(d.Names(), " "), "log")
	got, _ := fileOf(d, "log")
	same(t, name+": the file", got, want)
	c := d.Clone()
	c.Crash(0, 0)
	got, _ = fileOf(c, "log")
	same(t, name+": the file behind a fall", got, want)
}

// The chapter's example.
func TestExample(t *testing.T) {
	d := disk.New()
	l := opened(t, d)
	a := put(t, l, "a")
	ok(t, "Commit", l.Commit("r"))
	put(t, l, "b")
	d.Crash(1, 1)
	d.Up()
	k, cut, e := Open(d)
	ok(t, "Open", e)
	same(t, "cut", cut, 0)
	s, e := k.Read(a)
	same(t, "a", s, "a")
	ok(t, "Read", e)
	same(t, "all", look(t, k), model{sure: []string{"da", "mr"}}.looks())
}

// Words: the file's bytes are frames of d and a record, and of m and a marker's text; a place is how many bytes stand ahead.
func TestFile(t *testing.T) {
	d := disk.New()
	l := opened(t, d)
	same(t, "a", put(t, l, "a"), 0)
	same(t, "nothing", put(t, l, ""), 10)
	same(t, "bc", put(t, l, "bc"), 19)
	same(t, "names ahead of Commit", len(d.Names()), 0)
	ok(t, "Commit", l.Commit("r"))
	want := "\x02\x00\x00\x00da\xc8\x00\x3b\x01" + rec("") + rec("bc") + mark("r")
	same(t, "a frame by hand", want[:10], rec("a"))
	files(t, "one commit", d, want)
	same(t, "the next one", put(t, l, "m"), len(want))
	ok(t, "Commit", l.Commit(""))
	files(t, "two commits", d, want+rec("m")+mark(""))
}

// Promise 4.1: a disk without a file is opened, and nothing is done to it.
func TestOpenOfNothing(t *testing.T) {
	d := disk.New()
	l, cut, e := Open(d)
	ok(t, "Open", e)
	same(t, "cut", cut, 0)
	same(t, "the log", look(t, l), state{})
	same(t, "changes", d.Changes(), 0)
	same(t, "names", len(d.Names()), 0)
}

// Promise 4.1: no disk, and a dead one; nothing else is answered then.
func TestOpenOfNoDisk(t *testing.T) {
	l, cut, e := Open(nil)
	same(t, "log", l, nil)
	same(t, "cut", cut, 0)
	same(t, "nil", e, api.ErrArg)

	d := with(t, rec("a")+mark("r")+"tail")
	d.Write("log.new", "x")
	d.Crash(1, 0)
	l, cut, e = Open(d)
	same(t, "log", l, nil)
	same(t, "cut", cut, 0)
	same(t, "dead", e, api.ErrDead)
	d.Up()
	same(t, "files", strings.Join(d.Names(), " "), "log log.new")
}

// Promise 4.1: what stands behind the last marker is cut off, and told.
func TestOpenCuts(t *testing.T) {
	base := rec("a") + mark("q") + rec("b") + rec("c") + mark("r")
	bad := []byte(rec("b"))
	bad[6] ^= 1
	for _, tail := range []string{
		"", "x", "torn", rec("z"), rec("z") + rec("y"), rec("z") + "\x05",
		framed(""), framed("x"), framed("D"), framed("M"), framed("\x00"), framed(" da"),
		framed("x") + mark("s"), framed("D") + mark("s"), framed("M") + mark("s"), framed("") + mark("s"), string(bad) + mark("s"), "\x00" + mark("s"),
		mark("s")[:len(mark("s"))-1], "\xff\xff\xff\x7f" + mark("s"), "\xff\xff\xff\xff" + mark("s"), "\x00\x00\x00\x80",
		strings.Repeat("\x00", 50),
	} {
		d := with(t, base+tail)
		changes := d.Changes()
		l, cut, e := Open(d)
		ok(t, "Open", e)
		same(t, fmt.Sprintf("cut of %q", tail), cut, len(tail))
		same(t, "the log", look(t, l), model{sure: []string{"da", "mq", "db", "dc", "mr"}}.looks())
		files(t, "cut", d, base)
		same(t, fmt.Sprintf("changes of %q", tail), d.Changes()-changes, min(len(tail), 1))
	}
}

// Promise 4.1: without a marker all is cut off; the file stays, and is empty.
func TestOpenWithoutMarker(t *testing.T) {
	for _, file := range []string{"", "x", rec("a"), rec("a") + rec("b"), framed("x") + mark("r"), "x" + mark("r"), framed("")} {
		d := with(t, file)
		l, cut, e := Open(d)
		ok(t, "Open", e)
		same(t, "cut", cut, len(file))
		same(t, "the log", look(t, l), state{})
		files(t, "the file", d, "")
	}
}

// Promise 4.1: markers alone, of no text, too.
func TestOpenOfMarkers(t *testing.T) {
	l := opened(t, with(t, mark("")))
	same(t, "of no text", look(t, l), state{is: true, len: 9})
	l = opened(t, with(t, mark("a")+mark("b")))
	same(t, "two of them", look(t, l), state{root: "b", is: true, len: 20})
}

// Promise 4.1: log.new goes, whatever it holds; and Open makes all sure.
func TestOpenRemovesNew(t *testing.T) {
	base := rec("a") + mark("r")
	d := with(t, base)
	ok(t, "Write", d.Write("log.new", rec("b")+mark("s")))
	l, cut, e := Open(d)
	ok(t, "Open", e)
	same(t, "cut", cut, 0)
	same(t, "the log", look(t, l), modelOf(base).looks())
	files(t, "without log.new", d, base)

	d = disk.New()
	ok(t, "Write", d.Write("log.new", rec("b")+mark("s")))
	same(t, "the log", look(t, opened(t, d)), state{})
	same(t, "names", len(d.Names()), 0)
	same(t, "loose", d.Loose(), 0)

	d = disk.New()
	d.Write("log", base)
	opened(t, d)
	files(t, "synced", d, base)
}

// Promise 4.1: any bytes are opened as the words say; twice is as once.
func TestOpenOfAnyBytes(t *testing.T) {
	base := rec("a") + mark("q") + rec("") + rec("bcd") + mark("r") + rec("e") + mark("")
	var l []string
	for n := range len(base) {
		l = append(l, base[:n])
		for _, x := range []byte{1, 4, 9, 0x80} {
			b := []byte(base)
			b[n] ^= x
			l = append(l, string(b), base[:n]+string(x)+base[n:], base[:n]+base[n+1:])
		}
	}
	r := rand.New(rand.NewSource(4))
	pieces := []string{rec("a"), rec(""), mark("r"), mark(""), framed(""), framed("x"), "d", "\x00\x00\x00\x00", "\x01\x00\x00\x00"}
	for range 3000 {
		s := ""
		for range r.Intn(8) {
			switch k := r.Intn(12); {
			case k < len(pieces):
				s += pieces[k]
			default:
				s += string([]byte{byte(r.Intn(256)), byte(r.Intn(3))})
			}
		}
		l = append(l, s)
	}
	for _, file := range l {
		d := with(t, file)
		log, cut, e := Open(d)
		ok(t, "Open", e)
		want := modelOf(file)
		same(t, fmt.Sprintf("cut of %q", file), cut, len(file)-len(bytesOf(want.sure)))
		same(t, fmt.Sprintf("log of %q", file), look(t, log), want.looks())
		files(t, "the file", d, bytesOf(want.sure))
		again, cut, e := Open(d)
		ok(t, "Open", e)
		same(t, "cut again", cut, 0)
		same(t, "log again", look(t, again), want.looks())
	}
}

// Promise 4.2: records wait at places as if they were on the disk; Drop lets them go, and the places are free again.
func TestWaiting(t *testing.T) {
	d := with(t, rec("a")+mark("r"))
	l := opened(t, d)
	ahead := look(t, l)
	changes := d.Changes()
	same(t, "Drop of nothing", l.Drop(), 0)
	b := put(t, l, "b")
	same(t, "place", b, l.Len())
	c := put(t, l, "cc")
	same(t, "place", c, b+len(rec("b")))
	m := model{[]string{"da", "mr"}, []string{"db", "dcc"}}
	same(t, "waiting", look(t, l), m.looks())
	same(t, "Drop", l.Drop(), len(rec("b"))+len(rec("cc")))
	same(t, "dropped", look(t, l), ahead)
	same(t, "Drop again", l.Drop(), 0)
	same(t, "place", put(t, l, "x"), b)
	same(t, "waiting", look(t, l), model{[]string{"da", "mr"}, []string{"dx"}}.looks())
	same(t, "changes", d.Changes(), changes)
}

// Promise 4.2: what waits needs no disk: it may be dead, or full.
func TestWaitingWithoutPower(t *testing.T) {
	d := with(t, rec("a")+mark("r"))
	l := opened(t, d)
	d.Room(0)
	put(t, l, "b")
	d.Crash(0, 0)
	put(t, l, "c")
	same(t, "all", look(t, l), model{[]string{"da", "mr"}, []string{"db", "dc"}}.looks())
	same(t, "Drop", l.Drop(), 20)
}

// Promise 4.2: no record begins at a marker, within a frame, or in a record that looks like frames.
func TestReadOfNone(t *testing.T) {
	inner := rec("x") + mark("y") + rec("z")
	l := opened(t, disk.New())
	put(t, l, inner)
	want := model{waits: []string{"d" + inner}}
	same(t, "waiting", look(t, l), want.looks())
	ok(t, "Commit", l.Commit(inner))
	want = model{sure: []string{"d" + inner, "m" + inner}}
	same(t, "committed", look(t, l), want.looks())
	same(t, "opened", look(t, opened(t, with(t, rec(inner)+mark(inner)))), want.looks())
	for _, at := range []int{math.MinInt, math.MinInt32, -1, 1, l.Len() - 1, l.Len(), l.Len() + 1, math.MaxInt32, math.MaxInt} {
		s, e := l.Read(at)
		same(t, "text", s, "")
		same(t, fmt.Sprint("Read at ", at), e, api.ErrNone)
	}
}

// Promise 4.2: a commit is one change, and sure; it may have no record.
func TestCommit(t *testing.T) {
	d := disk.New()
	l := opened(t, d)
	ok(t, "Commit", l.Commit(""))
	same(t, "of nothing", look(t, l), state{is: true, len: 9})
	files(t, "of nothing", d, mark(""))
	same(t, "changes", d.Changes(), 1)
	put(t, l, "a")
	put(t, l, "b")
	ok(t, "Commit", l.Commit("r"))
	want := model{sure: []string{"m", "da", "db", "mr"}}
	same(t, "of two", look(t, l), want.looks())
	files(t, "of two", d, bytesOf(want.sure))
	same(t, "changes", d.Changes(), 2)
	same(t, "opened", look(t, opened(t, d)), want.looks())
}

// Promise 4.2: a record and a text have at most MaxRecord bytes; what has more changes nothing on the disk.
func TestMany(t *testing.T) {
	most := strings.Repeat("x", api.MaxRecord)
	d := disk.New()
	l := opened(t, d)
	at, e := l.Append(most + "x")
	same(t, "place", at, 0)
	same(t, "Append", e, api.ErrMany)
	same(t, "Waits", l.Waits(), 0)
	put(t, l, "a")
	at = put(t, l, most)
	_, e = l.Append(most + "y")
	same(t, "Append", e, api.ErrMany)
	same(t, "Waits", l.Waits(), len(rec("a"))+len(rec(most)))
	ok(t, "Commit of the most", l.Commit(most))

	l = opened(t, d)
	s, e := l.Read(at)
	ok(t, "Read", e)
	same(t, "the record is whole", s == most, true)
	root, is := l.Root()
	same(t, "the root is whole", root == most && is, true)
	length, changes := l.Len(), d.Changes()
	b := put(t, l, "b")
	same(t, "Commit", l.Commit(most+"x"), api.ErrMany)
	same(t, "Waits", l.Waits(), 0)
	_, e = l.Read(b)
	same(t, "b", e, api.ErrNone)

	put(t, l, "b")
	same(t, "Replace by a record", l.Replace([]string{"c", most + "x"}, "r"), api.ErrMany)
	same(t, "Replace by a text", l.Replace([]string{"c"}, most+"x"), api.ErrMany)
	same(t, "Len", l.Len(), length)
	same(t, "Waits", l.Waits(), len(rec("b")))
	root, _ = l.Root()
	same(t, "the root stays", root == most, true)
	same(t, "changes", d.Changes(), changes)
	ok(t, "Replace by the most", l.Replace([]string{most}, most))
	same(t, "Len", opened(t, d).Len(), len(rec(most))+len(mark(most)))
}

// Promise 4.2: with no room nothing is committed, and nothing waits; with just enough it is.
func TestCommitWithoutRoom(t *testing.T) {
	base := rec("a") + mark("r")
	d := with(t, base)
	l := opened(t, d)
	ahead := look(t, l)
	need := len(base) + len(rec("bc")) + len(mark("s"))
	d.Room(need - 1)
	put(t, l, "bc")
	same(t, "Commit", l.Commit("s"), api.ErrFull)
	same(t, "the log", look(t, l), ahead)
	files(t, "the file", d, base)
	d.Room(need)
	same(t, "place", put(t, l, "bc"), len(base))
	ok(t, "Commit", l.Commit("s"))
	files(t, "with room", d, base+rec("bc")+mark("s"))
	same(t, "the log", look(t, l), modelOf(base+rec("bc")+mark("s")).looks())
}

// Promise 4.2: without power nothing is committed, and nothing waits; what was committed is still told.
func TestCommitWithoutPower(t *testing.T) {
	base := rec("a") + mark("r")
	for _, planned := range []bool{false, true} {
		d := with(t, base)
		l := opened(t, d)
		ahead := look(t, l)
		put(t, l, "b")
		if planned {
			d.Plan([]api.Fall{{At: d.Changes(), Keep: -1, Torn: 100}})
		} else {
			d.Crash(-1, 100)
		}
		same(t, "Commit", l.Commit("s"), api.ErrDead)
		same(t, "the log", look(t, l), ahead)
		put(t, l, "c")
		same(t, "Commit", l.Commit("s"), api.ErrDead)
		same(t, "Waits", l.Waits(), 0)
		d.Up()
		files(t, "the file", d, base)
		same(t, "place", put(t, l, "d"), len(base))
		ok(t, "Commit", l.Commit("u"))
		files(t, "with power", d, base+rec("d")+mark("u"))
	}
}

// Promise 4.2: Replace lays just these records, and lets go what waits.
func TestReplace(t *testing.T) {
	for _, records := range [][]string{nil, {}, {""}, {"x"}, {"y", "", "y", rec("z")}} {
		d := with(t, rec("a")+mark("r"))
		l := opened(t, d)
		put(t, l, "b")
		changes := d.Changes()
		ok(t, "Replace", l.Replace(records, "q"))
		want := model{}
		for _, s := range records {
			want.sure = append(want.sure, "d"+s)
		}
		want.sure = append(want.sure, "mq")
		same(t, "the log", look(t, l), want.looks())
		files(t, "the file", d, bytesOf(want.sure))
		same(t, "changes", d.Changes()-changes, 2)
		same(t, "Drop", l.Drop(), 0)
		same(t, "place", put(t, l, "c"), len(bytesOf(want.sure)))
		ok(t, "Commit", l.Commit("p"))
		want.sure = append(want.sure, "dc", "mp")
		same(t, "behind it", look(t, opened(t, d)), want.looks())
	}
}

// Promise 4.2: a log that was never committed can be replaced.
func TestReplaceOfNothing(t *testing.T) {
	d := disk.New()
	l := opened(t, d)
	ok(t, "Replace", l.Replace([]string{"x"}, ""))
	files(t, "the file", d, rec("x")+mark(""))
	same(t, "the log", look(t, l), modelOf(rec("x")+mark("")).looks())
}

// Promise 4.2: Replace needs room for both files; without it all stays, what waits, too.
func TestReplaceWithoutRoom(t *testing.T) {
	base := rec("a") + mark("r")
	d := with(t, base)
	l := opened(t, d)
	put(t, l, "b")
	ahead := look(t, l)
	need := len(base) + len(rec("x")) + len(mark("q"))
	d.Room(need - 1)
	same(t, "Replace", l.Replace([]string{"x"}, "q"), api.ErrFull)
	same(t, "the log", look(t, l), ahead)
	files(t, "the file", d, base)
	d.Room(need)
	ok(t, "Replace", l.Replace([]string{"x"}, "q"))
	files(t, "with room", d, rec("x")+mark("q"))
}

// Promise 4.2: a nil log.
func TestNil(t *testing.T) {
	var l *Log
	long := strings.Repeat("x", api.MaxRecord+1)
	for _, s := range []string{"", "a", long} {
		at, e := l.Append(s)
		same(t, "place", at, 0)
		same(t, "Append", e, api.ErrArg)
		same(t, "Commit", l.Commit(s), api.ErrArg)
		same(t, "Replace", l.Replace([]string{s}, s), api.ErrArg)
	}
	same(t, "Replace", l.Replace(nil, ""), api.ErrArg)
	for _, at := range []int{-1, 0, 1} {
		s, e := l.Read(at)
		same(t, "text", s, "")
		same(t, "Read", e, api.ErrArg)
	}
	root, is := l.Root()
	same(t, "Root", root, "")
	same(t, "Root", is, false)
	same(t, "Drop", l.Drop(), 0)
	same(t, "Len", l.Len(), 0)
	same(t, "Waits", l.Waits(), 0)
}

// Rule R1: a log that Open did not make has no disk, and no power.
func TestWithoutDisk(t *testing.T) {
	l := &Log{}
	same(t, "all", look(t, l), state{})
	same(t, "Drop", l.Drop(), 0)
	put(t, l, "a")
	same(t, "Commit", l.Commit("r"), api.ErrDead)
	same(t, "Replace", l.Replace(nil, "r"), api.ErrDead)
	same(t, "all", look(t, l), state{})
}

// Rule R2: what was handed in may be changed later.
func TestHandedIn(t *testing.T) {
	l := opened(t, disk.New())
	records := []string{"a", "b"}
	ok(t, "Replace", l.Replace(records, "r"))
	records[0], records[1] = "x", "y"
	want := model{sure: []string{"da", "db", "mr"}}
	same(t, "the log", look(t, l), want.looks())
}

// reopened tells that a disk opens to one of two states, whatever falls befall the opening and the one that follows; of each, what was kept and torn varies.
func reopened(t *testing.T, name string, d *disk.Disk, wants ...string) {
	t.Helper()
	c := d.Clone()
	c.Up()
	l, _, e := Open(c)
	ok(t, name, e)
	got, _ := fileOf(c, "log")
	if !slices.Contains(wants, got) {
		t.Errorf("%s: the file is %q", name, got)
	}
	same(t, name, look(t, l), modelOf(got).looks())
	same(t, name+": Len", l.Len(), len(got))
	files(t, name, withLog(c), got)
	for fall := range 3 {
		for keep := range 4 {
			struck(t, name, d, got, api.Fall{At: fall, Keep: keep, Torn: fall}, 2)
		}
	}
}

// withLog is a disk that has the file log at least, which an opening does not make.
func withLog(d *disk.Disk) *disk.Disk {
	if _, is := fileOf(d, "log"); !is {
		d = d.Clone()
		d.Write("log", "")
		d.Sync()
	}
	return d
}

// struck opens a disk with a fall so many changes from now on, and then again, with another one, so often; behind all of them it has what it must.
func struck(t *testing.T, name string, d *disk.Disk, want string, f api.Fall, more int) {
	t.Helper()
	c := d.Clone()
	c.Up()
	ahead := c.Changes()
	c.Plan([]api.Fall{{At: ahead + f.At, Keep: f.Keep, Torn: f.Torn}})
	l, cut, e := Open(c)
	if e != api.OK {
		same(t, name+": error", e, api.ErrDead)
		same(t, name+": log", l, nil)
		same(t, name+": cut", cut, 0)
		same(t, name+": changes", c.Changes(), ahead+f.At)
	}
	if more > 0 {
		for at := range 2 {
			for keep := range 4 {
				struck(t, name, c, want, api.Fall{At: at, Keep: keep}, more-1)
			}
		}
	}
	c.Plan(nil)
	c.Up()
	l = opened(t, c)
	same(t, name+": the log", look(t, l), modelOf(want).looks())
	got, _ := fileOf(c, "log")
	same(t, name+": the file", got, want)
	_, is := fileOf(c, "log.new")
	same(t, name+": log.new", is, false)
}

// Promise 4.1, 4.3: a loss of power at every change of an opening, and within those that follow.
func TestFallsOfOpenings(t *testing.T) {
	base := rec("a") + mark("r")
	for _, tail := range []string{"", "x", rec("b"), mark("s")[:5]} {
		for _, other := range []string{"", rec("z") + mark("z")} {
			d := with(t, base+tail)
			if other != "" {
				ok(t, "Write", d.Write("log.new", other))
				ok(t, "Sync", d.Sync())
			}
			reopened(t, fmt.Sprintf("%q, %q", tail, other), d, base)
		}
	}
}

// Promise 4.2, 4.3: a loss of power at every change of a commit, or while its one change is loose: all of it is there or none.
func TestFallsOfCommits(t *testing.T) {
	for _, base := range []string{"", rec("a") + mark("r")} {
		more := rec("bcd") + rec("") + mark("s")
		d := disk.New()
		if base != "" {
			d = with(t, base)
		}
		l := opened(t, d)
		put(t, l, "bcd")
		put(t, l, "")
		struckAt := d.Clone()
		done, _, _ := Open(struckAt)
		put(t, done, "bcd")
		put(t, done, "")
		struckAt.Plan([]api.Fall{{At: struckAt.Changes(), Keep: 1, Torn: 9}})
		same(t, "Commit", done.Commit("s"), api.ErrDead)
		reopened(t, "struck", struckAt, base)

		for torn := range len(more) + 2 {
			c := d.Clone()
			ok(t, "Append", c.Append("log", more))
			c.Crash(0, torn)
			want := base
			if torn >= len(more) {
				want = base + more
			}
			reopened(t, fmt.Sprint("torn ", torn), c, want)
		}
		c := d.Clone()
		ok(t, "Append", c.Append("log", more))
		c.Crash(1, 0)
		reopened(t, "kept", c, base+more)

		ok(t, "Commit", l.Commit("s"))
		files(t, "that is what a commit does", d, base+more)
		d.Crash(0, 0)
		reopened(t, "committed", d, base+more)
	}
}

// Promise 4.2, 4.3: a loss of power at every change of a replacing, or while one is loose.
func TestFallsOfReplacing(t *testing.T) {
	base, next := rec("a")+mark("r"), rec("x")+rec("y")+mark("q")
	for at := range 3 {
		for keep := range 4 {
			for torn := range len(next) + 2 {
				d := with(t, base)
				l := opened(t, d)
				put(t, l, "b")
				ahead := look(t, l)
				d.Plan([]api.Fall{{At: d.Changes() + at, Keep: keep, Torn: torn}})
				e := l.Replace([]string{"x", "y"}, "q")
				if at == 2 {
					ok(t, "Replace", e)
					files(t, "Replace", d, next)
					break
				}
				same(t, "Replace", e, api.ErrDead)
				same(t, "the log", look(t, l), ahead)
				_, is := fileOf(d, "log.new")
				same(t, "log.new is sure ahead of the move", is, at == 1)
				if torn < 2 {
					reopened(t, "replaced", d, base)
				}
				d.Up()
				ok(t, "Replace again", l.Replace([]string{"x"}, "p"))
				files(t, "Replace again", d, rec("x")+mark("p"))
			}
		}
	}
	for torn := range len(next) + 2 {
		d := with(t, base)
		ok(t, "Write", d.Write("log.new", next))
		d.Crash(0, torn)
		reopened(t, "log.new is torn", d, base)
	}
	for keep := range 2 {
		d := with(t, base)
		ok(t, "Write", d.Write("log.new", next))
		ok(t, "Sync", d.Sync())
		ok(t, "Move", d.Move("log.new", "log"))
		d.Crash(keep, 0)
		reopened(t, "moved, or not", d, [...]string{base, next}[keep])
	}
}

// text is a record of few bytes, or one that looks like frames.
func text(r *rand.Rand) string {
	switch r.Intn(4) {
	case 0:
		return ""
	case 1:
		return rec("x") + mark("y")
	}
	return strings.Repeat(string(rune('a'+r.Intn(3))), r.Intn(20))
}

// player plays calls by chance on a log, and on a model of it.
type player struct {
	t *testing.T
	r *rand.Rand
	d *disk.Disk
	l *Log
	m model
}

// want is what a call that puts so many bytes into the file must answer: the disk is not dead, and no fall strikes at its first change.
func (p *player) want(grows int, room int) api.Errno {
	if p.d.Dead() {
		return api.ErrDead
	}
	if room >= 0 && p.d.Used()+grows > room {
		return api.ErrFull
	}
	return api.OK
}

// commit commits on both.
func (p *player) commit(room int) {
	root := text(p.r)
	next := append(slices.Clone(p.m.waits), "m"+root)
	e := p.want(len(bytesOf(next)), room)
	same(p.t, "Commit", p.l.Commit(root), e)
	if e == api.OK {
		p.m.sure = slices.Concat(p.m.sure, next)
	}
	p.m.waits = nil
}

// replace replaces on both.
func (p *player) replace(room int) {
	var records, next []string
	for range p.r.Intn(4) {
		s := text(p.r)
		records = append(records, s)
		next = append(next, "d"+s)
	}
	root := text(p.r)
	next = append(next, "m"+root)
	e := p.want(len(bytesOf(next)), room)
	same(p.t, "Replace", p.l.Replace(records, root), e)
	if e == api.OK {
		p.m = model{sure: next}
	}
}

// reopen lets the power fail, while something loose is behind the file perhaps, and opens anew.
func (p *player) reopen() {
	tail := ""
	p.d.Room(-1)
	if p.r.Intn(2) == 0 && len(p.m.sure) > 0 && p.d.Append("log", "torn") == api.OK {
		tail = "torn"[:p.r.Intn(5)]
	}
	p.d.Crash(0, len(tail))
	p.d.Up()
	l, cut, e := Open(p.d)
	ok(p.t, "Open", e)
	same(p.t, "cut", cut, len(tail))
	p.l, p.m.waits = l, nil
}

// step plays one call.
func (p *player) step(room int) {
	switch k := p.r.Intn(20); {
	case k < 9:
		s := text(p.r)
		at := len(bytesOf(p.m.sure)) + len(bytesOf(p.m.waits))
		same(p.t, "place", put(p.t, p.l, s), at)
		p.m.waits = append(p.m.waits, "d"+s)
	case k < 14:
		p.commit(room)
	case k < 16:
		same(p.t, "Drop", p.l.Drop(), len(bytesOf(p.m.waits)))
		p.m.waits = nil
	case k < 17:
		p.replace(room)
	case k < 18:
		p.d.Crash(p.r.Intn(2), p.r.Intn(3))
	default:
		p.reopen()
	}
}

// Promise 4.1 to 4.3, rule R4: calls by chance, against the model.
func TestByChance(t *testing.T) {
	for seed := range 60 {
		r := rand.New(rand.NewSource(int64(seed)))
		d := disk.New()
		p := &player{t: t, r: r, d: d, l: opened(t, d)}
		for range 60 {
			room := -1
			if r.Intn(3) == 0 {
				room = r.Intn(400)
			}
			d.Room(room)
			p.step(room)
			same(t, "the log", look(t, p.l), p.m.looks())
			if t.Failed() {
				t.Fatal("seed ", seed)
			}
		}
		d.Room(-1)
		d.Crash(0, 0)
		d.Up()
		got, _ := fileOf(d, "log")
		same(t, "the file", got, bytesOf(p.m.sure))
	}
}
