package disk

import (
	"fmt"
	"maps"
	"math"
	"math/rand"
	"slices"
	"strings"
	"testing"

	"cupel/api"
)

// state is all that can be seen of a disk; files as name=bytes, in the order of Names.
type state struct {
	dead                 bool
	used, changes, loose int
	files                string
}

// look is a disk's state; the files of a dead one are read from a copy that has power.
func look(d *Disk) state {
	c := d.Clone()
	c.Up()
	var l []string
	for _, n := range d.Names() {
		s, e := c.Read(n)
		if e != api.OK {
			s = fmt.Sprint("error ", e)
		}
		l = append(l, n+"="+s)
	}
	return state{d.Dead(), d.Used(), d.Changes(), d.Loose(), strings.Join(l, " ")}
}

// same holds two comparable answers against each other.
func same[T comparable](t *testing.T, name string, got, want T) {
	t.Helper()
	if got != want {
		t.Errorf("%s: %#v, not %#v", name, got, want)
	}
}

// has holds a disk's files against what they must be.
func has(t *testing.T, name string, d *Disk, files string) {
	t.Helper()
	same(t, name+": files", look(d).files, files)
}

// ok tells that a call answered no error.
func ok(t *testing.T, name string, e api.Errno) {
	t.Helper()
	same(t, name, e, api.OK)
}

// refused tells that a call on a disk answers an error, and changes nothing.
func refused(t *testing.T, name string, d *Disk, want api.Errno, call func(*Disk) api.Errno) {
	t.Helper()
	ahead := look(d)
	same(t, name, call(d), want)
	same(t, name+": what is there", look(d), ahead)
}

// made is a disk with the files a (abc), b (xy) and e (nothing), which are sure.
func made(t *testing.T) *Disk {
	t.Helper()
	d := New()
	ok(t, "Write a", d.Write("a", "abc"))
	ok(t, "Write b", d.Write("b", "xy"))
	ok(t, "Write e", d.Write("e", ""))
	ok(t, "Sync", d.Sync())
	return d
}

// call is something that may be asked of a disk by a file's name.
type call struct {
	name string
	do   func(d *Disk, name string) api.Errno
}

// changesOf is one call of each change, that a file of at least one byte allows.
func changesOf() []call {
	return []call{
		{"Append", func(d *Disk, n string) api.Errno { return d.Append(n, "1") }},
		{"Append of nothing", func(d *Disk, n string) api.Errno { return d.Append(n, "") }},
		{"Write", func(d *Disk, n string) api.Errno { return d.Write(n, "12") }},
		{"Write of nothing", func(d *Disk, n string) api.Errno { return d.Write(n, "") }},
		{"Move", func(d *Disk, n string) api.Errno { return d.Move(n, "z") }},
		{"Move onto b", func(d *Disk, n string) api.Errno { return d.Move(n, "b") }},
		{"Remove", func(d *Disk, n string) api.Errno { return d.Remove(n) }},
		{"Truncate", func(d *Disk, n string) api.Errno { return d.Truncate(n, 1) }},
	}
}

// wrongChanges is calls that are refused for what they ask of a, of a name that is not there, or of what is no name.
func wrongChanges() map[string]func(*Disk) api.Errno {
	return map[string]func(*Disk) api.Errno{
		"Move":              func(d *Disk) api.Errno { return d.Move("none", "z") },
		"Move onto itself":  func(d *Disk) api.Errno { return d.Move("a", "a") },
		"Remove":            func(d *Disk) api.Errno { return d.Remove("none") },
		"Truncate":          func(d *Disk) api.Errno { return d.Truncate("none", 0) },
		"Truncate below 0":  func(d *Disk) api.Errno { return d.Truncate("a", -1) },
		"Truncate too far":  func(d *Disk) api.Errno { return d.Truncate("a", 4) },
		"Append to no name": func(d *Disk) api.Errno { return d.Append("", "1") },
		"Write to no name":  func(d *Disk) api.Errno { return d.Write("A", "1") },
	}
}

// wrongNames is texts that are no names.
func wrongNames() []string {
	return []string{"", strings.Repeat("a", 17), "A", "a0", "a/b", "a b", "`", "{", "-", "\x00", "é", "a\xff", strings.Repeat("a", 16) + "\x00"}
}

// Promise 3.1: what a new disk has.
func TestNew(t *testing.T) {
	d := New()
	same(t, "New", look(d), state{})
	same(t, "names", len(d.Names()), 0)
	same(t, "Up", d.Up(), false)
	ok(t, "Sync", d.Sync())
	d.Crash(-1, 1)
	same(t, "behind a Crash", look(d), state{dead: true})
	same(t, "two disks", New() == New(), false)
}

// Rule R1: a disk that New did not make is as a new one.
func TestZeroDisk(t *testing.T) {
	for _, x := range changesOf() {
		var d Disk
		n := New()
		same(t, x.name, x.do(&d, "a"), x.do(n, "a"))
		same(t, x.name, look(&d), look(n))
	}
	var d Disk
	ok(t, "Append", d.Append("a", "x"))
	d.Crash(1, 0)
	d.Up()
	ok(t, "Append again", d.Append("a", "y"))
	has(t, "zero", &d, "a=xy")
}

// Promise 3.1 and 'A name': lengths.
func TestNameLengths(t *testing.T) {
	for n := range 40 {
		same(t, fmt.Sprint("a name of bytes ", n), Name(strings.Repeat("q", n)), n >= 1 && n <= 16)
		same(t, fmt.Sprint("points ", n), Name(strings.Repeat(".", n)), n >= 1 && n <= 16)
	}
	same(t, "a long one", Name(strings.Repeat("a", 1<<16)), false)
}

// Promise 3.1 and 'A name': each byte alone, ahead, between and behind.
func TestNameBytes(t *testing.T) {
	for i := range 256 {
		b := string([]byte{byte(i)})
		want := strings.Contains("abcdefghijklmnopqrstuvwxyz.", b)
		for _, s := range []string{b, b + "log", "lo" + b + "g", "log" + b, strings.Repeat("a", 15) + b} {
			same(t, fmt.Sprintf("%q", s), Name(s), want)
		}
	}
	same(t, "letters of more bytes", Name("ä"), false)
}

// Promise 3.1: Append.
func TestAppend(t *testing.T) {
	d := New()
	ok(t, "a new file", d.Append("a", "xy"))
	ok(t, "behind it", d.Append("a", "z"))
	ok(t, "another one", d.Append("log.new", "\x00\xff"))
	same(t, "Append", look(d), state{false, 5, 3, 3, "a=xyz log.new=\x00\xff"})
	ok(t, "nothing behind it", d.Append("a", ""))
	ok(t, "a new file of nothing", d.Append("n", ""))
	same(t, "of nothing", look(d), state{false, 5, 5, 5, "a=xyz log.new=\x00\xff n="})
	ok(t, "the longest name", d.Append("abcdefghijklmnop", "1"))
	same(t, "names", len(d.Names()), 4)
}

// Promise 3.1: Write.
func TestWrite(t *testing.T) {
	d := New()
	ok(t, "a new file", d.Write("a", "xy"))
	ok(t, "longer", d.Write("a", "1234"))
	has(t, "longer", d, "a=1234")
	ok(t, "shorter", d.Write("a", "5"))
	has(t, "shorter", d, "a=5")
	ok(t, "the same", d.Write("a", "5"))
	ok(t, "nothing", d.Write("a", ""))
	ok(t, "a new file of nothing", d.Write("b", ""))
	same(t, "Write", look(d), state{false, 0, 6, 6, "a= b="})
}

// Promise 3.1: Move.
func TestMove(t *testing.T) {
	d := made(t)
	ok(t, "to a free name", d.Move("a", "c"))
	same(t, "to a free name", look(d), state{false, 5, 4, 1, "b=xy c=abc e="})
	ok(t, "onto a file", d.Move("c", "b"))
	same(t, "onto a file", look(d), state{false, 3, 5, 2, "b=abc e="})
	ok(t, "a file of nothing onto one", d.Move("e", "b"))
	same(t, "a file of nothing", look(d), state{false, 0, 6, 3, "b="})
}

// Promise 3.1: what Move refuses.
func TestMoveRefused(t *testing.T) {
	d := made(t)
	refused(t, "onto itself", d, api.ErrArg, func(d *Disk) api.Errno { return d.Move("a", "a") })
	refused(t, "what is not there", d, api.ErrNone, func(d *Disk) api.Errno { return d.Move("c", "d") })
	refused(t, "what is not there, onto a file", d, api.ErrNone, func(d *Disk) api.Errno { return d.Move("c", "a") })
	refused(t, "what is not there, onto itself", d, api.ErrNone, func(d *Disk) api.Errno { return d.Move("c", "c") })
	for _, n := range wrongNames() {
		refused(t, "from a wrong name", d, api.ErrName, func(d *Disk) api.Errno { return d.Move(n, "c") })
		refused(t, "to a wrong name", d, api.ErrName, func(d *Disk) api.Errno { return d.Move("a", n) })
		refused(t, "to a wrong name, of what is not there", d, api.ErrName, func(d *Disk) api.Errno { return d.Move("c", n) })
		refused(t, "a wrong name onto itself", d, api.ErrName, func(d *Disk) api.Errno { return d.Move(n, n) })
	}
}

// Promise 3.1: Remove.
func TestRemove(t *testing.T) {
	d := made(t)
	refused(t, "what is not there", d, api.ErrNone, func(d *Disk) api.Errno { return d.Remove("c") })
	ok(t, "a", d.Remove("a"))
	same(t, "a", look(d), state{false, 2, 4, 1, "b=xy e="})
	refused(t, "twice", d, api.ErrNone, func(d *Disk) api.Errno { return d.Remove("a") })
	ok(t, "of nothing", d.Remove("e"))
	ok(t, "b", d.Remove("b"))
	same(t, "all", look(d), state{false, 0, 6, 3, ""})
	ok(t, "Append", d.Append("a", "1"))
	has(t, "a file that comes again", d, "a=1")
}

// Promise 3.1: Truncate.
func TestTruncate(t *testing.T) {
	d := made(t)
	ok(t, "to its length", d.Truncate("a", 3))
	same(t, "to its length", look(d), state{false, 5, 4, 1, "a=abc b=xy e="})
	ok(t, "to less", d.Truncate("a", 2))
	has(t, "to less", d, "a=ab b=xy e=")
	ok(t, "to 0", d.Truncate("a", 0))
	ok(t, "of nothing to 0", d.Truncate("e", 0))
	same(t, "to 0", look(d), state{false, 2, 7, 4, "a= b=xy e="})
	ok(t, "Append", d.Append("b", "z"))
	ok(t, "to less", d.Truncate("b", 1))
	ok(t, "Append", d.Append("b", "w"))
	has(t, "behind a cut", d, "a= b=xw e=")
}

// Promise 3.1: what Truncate refuses.
func TestTruncateRefused(t *testing.T) {
	d := made(t)
	for _, n := range []int{-1, 4, 5, math.MinInt, math.MaxInt} {
		refused(t, fmt.Sprint("to ", n), d, api.ErrArg, func(d *Disk) api.Errno { return d.Truncate("a", n) })
		refused(t, fmt.Sprint("of nothing to ", n), d, api.ErrArg, func(d *Disk) api.Errno { return d.Truncate("e", n) })
	}
	for _, n := range []int{-1, 0, 1, math.MinInt, math.MaxInt} {
		refused(t, "what is not there", d, api.ErrNone, func(d *Disk) api.Errno { return d.Truncate("c", n) })
		refused(t, "a wrong name", d, api.ErrName, func(d *Disk) api.Errno { return d.Truncate("C", n) })
	}
}

// Promise 3.1: wrong names, of each call that has one.
func TestWrongNames(t *testing.T) {
	for _, n := range wrongNames() {
		d := made(t)
		for _, x := range changesOf() {
			refused(t, x.name, d, api.ErrName, func(d *Disk) api.Errno { return x.do(d, n) })
		}
		s, e := d.Read(n)
		same(t, "Read", s, "")
		same(t, "Read", e, api.ErrName)
	}
}

// Rule R1: the name comes ahead of the room.
func TestWrongNameWithoutRoom(t *testing.T) {
	d := made(t)
	d.Room(0)
	refused(t, "Append", d, api.ErrName, func(d *Disk) api.Errno { return d.Append("", "1") })
	refused(t, "Write", d, api.ErrName, func(d *Disk) api.Errno { return d.Write("A", "1") })
}

// Promise 3.1: Read.
func TestRead(t *testing.T) {
	d := made(t)
	for n, want := range map[string]string{"a": "abc", "b": "xy", "e": ""} {
		s, e := d.Read(n)
		same(t, "Read "+n, s, want)
		ok(t, "Read "+n, e)
	}
	s, e := d.Read("c")
	same(t, "what is not there", s, "")
	same(t, "what is not there", e, api.ErrNone)
	ok(t, "Write", d.Write("a", "new"))
	s, _ = d.Read("a")
	same(t, "what is not sure", s, "new")
}

// Promise 3.1 and rule R2: names are sorted by their bytes, and the caller's own.
func TestNames(t *testing.T) {
	d := New()
	for _, n := range []string{"log", "b", "z.", "log.new", "a", ".", "aa", "z", "..", "a."} {
		ok(t, "Append", d.Append(n, "1"))
	}
	want := []string{".", "..", "a", "a.", "aa", "b", "log", "log.new", "z", "z."}
	l := d.Names()
	if !slices.Equal(l, want) {
		t.Errorf("names: %q", l)
	}
	for i := range l {
		l[i] = "q"
	}
	if l = append(l[:3], "r"); !slices.Equal(d.Names(), want) {
		t.Errorf("names that a caller changed: %q", d.Names())
	}
}

// Promise 3.1: Sync makes all sure, of all kinds of changes, and is none itself.
func TestSync(t *testing.T) {
	d := made(t)
	ok(t, "Append", d.Append("a", "d"))
	ok(t, "Move", d.Move("b", "c"))
	ok(t, "Remove", d.Remove("e"))
	ok(t, "Write", d.Write("w", "123"))
	ok(t, "Truncate", d.Truncate("w", 1))
	same(t, "loose", d.Loose(), 5)
	ok(t, "Sync", d.Sync())
	want := state{false, 7, 8, 0, "a=abcd c=xy w=1"}
	same(t, "Sync", look(d), want)
	ok(t, "Sync again", d.Sync())
	same(t, "Sync again", look(d), want)
	ok(t, "Append", d.Append("a", "e"))
	ok(t, "Remove", d.Remove("c"))
	d.Crash(0, 0)
	want.dead = true
	want.changes = 10
	same(t, "behind a Crash", look(d), want)
}

// Promise 3.1: a dead disk answers ErrDead ahead of all else, and changes nothing.
func TestDeadAnswers(t *testing.T) {
	d := made(t)
	d.Room(5)
	d.Crash(0, 0)
	same(t, "Dead", look(d), state{true, 5, 3, 0, "a=abc b=xy e="})
	for _, n := range append(wrongNames(), "a", "c") {
		for _, x := range changesOf() {
			refused(t, x.name, d, api.ErrDead, func(d *Disk) api.Errno { return x.do(d, n) })
		}
		refused(t, "Read", d, api.ErrDead, func(d *Disk) api.Errno {
			s, e := d.Read(n)
			same(t, "Read", s, "")
			return e
		})
	}
	for n, f := range wrongChanges() {
		refused(t, n, d, api.ErrDead, f)
	}
	refused(t, "Sync", d, api.ErrDead, (*Disk).Sync)
}

// Promise 3.2: room that is just enough, and one byte short.
func TestRoomOfAppend(t *testing.T) {
	for _, x := range []struct {
		room int
		s    string
		want api.Errno
	}{
		{8, "123", api.OK}, {7, "123", api.ErrFull}, {6, "1", api.OK}, {5, "1", api.ErrFull}, {5, "", api.OK},
		{4, "", api.OK}, {4, "1", api.ErrFull}, {0, "", api.OK}, {0, "1", api.ErrFull},
		{-1, "123", api.OK}, {math.MinInt, "123", api.OK}, {math.MaxInt, "123", api.OK},
	} {
		for _, n := range []string{"a", "e", "new"} {
			d := made(t)
			d.Room(x.room)
			name := fmt.Sprint("room ", x.room, ", Append ", n, " ", x.s)
			if x.want == api.OK {
				ok(t, name, d.Append(n, x.s))
				same(t, name, d.Used(), 5+len(x.s))
				same(t, name, d.Changes(), 4)
				continue
			}
			refused(t, name, d, x.want, func(d *Disk) api.Errno { return d.Append(n, x.s) })
		}
	}
}

// Promise 3.2: room for a Write is asked for only where the file grows.
func TestRoomOfWrite(t *testing.T) {
	for _, x := range []struct {
		room    int
		name, s string
		want    api.Errno
	}{
		{7, "a", "12345", api.OK}, {6, "a", "12345", api.ErrFull}, {5, "a", "1234", api.ErrFull}, {0, "a", "1234", api.ErrFull},
		{5, "a", "123", api.OK}, {4, "a", "123", api.OK}, {0, "a", "123", api.OK}, // it stays as long
		{4, "a", "12", api.OK}, {0, "a", "12", api.OK}, {0, "a", "", api.OK}, // it shrinks
		{6, "new", "1", api.OK}, {5, "new", "1", api.ErrFull}, {0, "new", "1", api.ErrFull},
		{6, "e", "1", api.OK}, {5, "e", "1", api.ErrFull},
		{5, "new", "", api.OK}, {0, "new", "", api.OK}, {0, "e", "", api.OK},
		{-1, "a", "1234567", api.OK}, {math.MinInt, "new", "1234567", api.OK},
	} {
		d := made(t)
		d.Room(x.room)
		name := fmt.Sprint("room ", x.room, ", Write ", x.name, " ", x.s)
		if x.want == api.OK {
			ok(t, name, d.Write(x.name, x.s))
			s, _ := d.Read(x.name)
			same(t, name, s, x.s)
			continue
		}
		refused(t, name, d, x.want, func(d *Disk) api.Errno { return d.Write(x.name, x.s) })
	}
}

// Promise 3.2: what goes leaves room, and the others ask for none.
func TestRoomOfTheOthers(t *testing.T) {
	d := made(t)
	d.Room(0)
	ok(t, "Truncate", d.Truncate("a", 2))
	ok(t, "Move", d.Move("a", "c"))
	same(t, "used", d.Used(), 4)
	d.Room(4)
	refused(t, "no room", d, api.ErrFull, func(d *Disk) api.Errno { return d.Append("c", "1") })
	ok(t, "Move onto a file", d.Move("b", "c"))
	ok(t, "its room", d.Append("e", "12"))
	refused(t, "no room", d, api.ErrFull, func(d *Disk) api.Errno { return d.Write("b", "1") })
	ok(t, "Remove", d.Remove("c"))
	ok(t, "its room", d.Write("b", "12"))
	refused(t, "no room", d, api.ErrFull, func(d *Disk) api.Errno { return d.Append("b", "1") })
	d.Room(-7)
	ok(t, "any room", d.Append("b", "3456"))
	same(t, "Room is no change", look(d), state{false, 8, 10, 7, "b=123456 e=12"})
}

// Promise 3.2: the room stays as it is laid over a loss of power, and may be laid while it is dead.
func TestRoomStays(t *testing.T) {
	d := made(t)
	d.Room(5)
	d.Crash(0, 0)
	d.Up()
	refused(t, "no room", d, api.ErrFull, func(d *Disk) api.Errno { return d.Append("a", "1") })
	d.Crash(0, 0)
	d.Room(6)
	d.Up()
	ok(t, "room", d.Append("a", "1"))
}

// 'When the power fails': what survives does not ask for room.
func TestRoomOfWhatSurvives(t *testing.T) {
	d := made(t)
	d.Room(5)
	ok(t, "Remove", d.Remove("a"))
	ok(t, "Append", d.Append("b", "123"))
	d.Crash(2, 0)
	same(t, "above the room", look(d), state{true, 8, 5, 0, "a=abc b=xy123 e="})
	d.Up()
	refused(t, "no room", d, api.ErrFull, func(d *Disk) api.Errno { return d.Append("b", "1") })
	ok(t, "of nothing", d.Append("b", ""))
}

// Rule R1 and 'Changes': what is refused changes nothing, does not count, and no fall strikes at it.
func TestRefusedDoesNotCount(t *testing.T) {
	d := made(t)
	d.Room(5)
	d.Plan([]api.Fall{{At: d.Changes()}})
	for n, f := range wrongChanges() {
		ahead := look(d)
		if f(d) == api.OK {
			t.Errorf("%s: no error", n)
		}
		same(t, n, look(d), ahead)
	}
	refused(t, "Append", d, api.ErrFull, func(d *Disk) api.Errno { return d.Append("a", "1") })
	refused(t, "Write", d, api.ErrFull, func(d *Disk) api.Errno { return d.Write("a", "1234") })
	same(t, "nothing loose", d.Loose(), 0)
	same(t, "the fall", d.Append("a", ""), api.ErrDead)
}

// The chapter's example.
func TestExample(t *testing.T) {
	d := New()
	ok(t, "Append", d.Append("a", "x"))
	ok(t, "Write", d.Write("b", "y"))
	d.Crash(2, 0)
	same(t, "Up", d.Up(), true)
	same(t, "the example", look(d), state{false, 1, 2, 0, "b=y"})
}

// 'When the power fails': each of the changes that a bit may keep, alone, with all others, and without it.
func TestKeepBits(t *testing.T) {
	for i := range 62 {
		for _, only := range []bool{true, false} {
			d := New()
			want := ""
			for j := range 62 {
				s := string([]byte{byte('0' + j)})
				ok(t, "Append", d.Append("a", s))
				if (i == j) == only {
					want += s
				}
			}
			keep := 1 << i
			if !only {
				keep = ^keep
			}
			d.Crash(keep, 0)
			same(t, fmt.Sprint("bit ", i), look(d), state{true, len(want), 62, 0, "a=" + want})
		}
	}
}

// 'When the power fails': those behind the 62nd have no bit; the 63rd may be torn, if all ahead of it are kept.
func TestMoreThanBits(t *testing.T) {
	for _, x := range []struct{ keep, torn, whole, part int }{
		{-1, 0, 62, 0}, {math.MaxInt, 0, 62, 0}, {1<<62 - 1, 0, 62, 0},
		{-1, 1, 62, 1}, {math.MaxInt, 1, 62, 1}, {1<<62 - 1, 2, 62, 2}, {-1, 9, 62, 2},
		{1<<61 - 1, 1, 61, 1}, {1<<61 - 1, 0, 61, 0}, {math.MinInt, 0, 0, 0}, {1 << 62, 0, 0, 0}, {math.MinInt, 1, 0, 1},
	} {
		for _, many := range []int{63, 64, 65, 70, 200} {
			d := New()
			all := ""
			for i := range many {
				s := fmt.Sprintf("%c;", '0'+i%70)
				ok(t, "Append", d.Append("a", s))
				all += s
			}
			same(t, "loose", d.Loose(), many)
			d.Crash(x.keep, x.torn)
			want := all[:2*x.whole+x.part]
			s := strings.TrimPrefix(look(d).files, "a=")
			same(t, fmt.Sprint(x, " of ", many), s, want)
			same(t, "loose", d.Loose(), 0)
			same(t, "changes", d.Changes(), many)
		}
	}
}

// 'When the power fails': how far the first one that is not kept is put.
func TestTorn(t *testing.T) {
	for _, x := range []struct {
		torn            int
		appended, wrote string
	}{
		{math.MinInt, "a=abc", "a=abc"}, {-1, "a=abc", "a=abc"}, {0, "a=abc", "a=abc"},
		{1, "a=abc1", "a=1"}, {2, "a=abc12", "a=12"}, {3, "a=abc123", "a=123"},
		{4, "a=abc123", "a=123"}, {math.MaxInt, "a=abc123", "a=123"},
	} {
		d := made(t)
		ok(t, "Append", d.Append("a", "123"))
		d.Crash(0, x.torn)
		has(t, fmt.Sprint("Append torn at ", x.torn), d, x.appended+" b=xy e=")
		d = made(t)
		ok(t, "Write", d.Write("a", "123"))
		d.Crash(0, x.torn)
		has(t, fmt.Sprint("Write torn at ", x.torn), d, x.wrote+" b=xy e=")
	}
}

// 'When the power fails': a file comes by what is torn, even by the first bytes of nothing.
func TestTornFileComes(t *testing.T) {
	for _, put := range []func(*Disk, string, string) api.Errno{(*Disk).Append, (*Disk).Write} {
		for _, s := range []string{"", "1", "12"} {
			for torn := range 4 {
				d := New()
				ok(t, "put", put(d, "n", s))
				d.Crash(0, torn)
				want := ""
				if torn > 0 {
					want = "n=" + s[:min(torn, len(s))]
				}
				has(t, fmt.Sprint(s, " torn at ", torn), d, want)
			}
		}
	}
	d := made(t)
	ok(t, "Write", d.Write("a", ""))
	d.Crash(0, 1)
	has(t, "a Write of nothing", d, "a= b=xy e=")
}

// 'When the power fails': what is torn is put in its place of the order, and one change at most is torn.
func TestTornInItsPlace(t *testing.T) {
	for _, x := range []struct {
		keep, torn int
		want       string
	}{
		{6, 1, "n=1456789"}, {6, 2, "n=12456789"}, {6, 0, "n=456789"}, {2, 1, "n=1456"}, {4, 1, "n=1789"},
		{1, 1, "n=1234"}, {5, 2, "n=12345789"}, {3, 2, "n=12345678"}, {0, 2, "n=12"}, {7, 2, "n=123456789"},
	} {
		d := New()
		for _, s := range []string{"123", "456", "789"} {
			ok(t, "Append", d.Append("n", s))
		}
		d.Crash(x.keep, x.torn)
		has(t, fmt.Sprint(x), d, x.want)
	}
	d := New()
	ok(t, "Write", d.Write("n", "123"))
	ok(t, "Write", d.Write("n", "456"))
	d.Crash(2, 1)
	has(t, "a Write that is kept behind one that is torn", d, "n=456")
}

// 'When the power fails': where the first one that is not kept puts no bytes, nothing is torn.
func TestTornOfOthers(t *testing.T) {
	firsts := map[string]func(*Disk) api.Errno{
		"Move":     func(d *Disk) api.Errno { return d.Move("b", "c") },
		"Remove":   func(d *Disk) api.Errno { return d.Remove("b") },
		"Truncate": func(d *Disk) api.Errno { return d.Truncate("b", 1) },
	}
	for name, first := range firsts {
		for _, torn := range []int{1, 2, math.MaxInt} {
			d := made(t)
			ok(t, name, first(d))
			ok(t, "Append", d.Append("a", "123"))
			ok(t, "Write", d.Write("w", "456"))
			none, last, behind := d.Clone(), d.Clone(), d.Clone()
			none.Crash(0, torn)
			has(t, name+", nothing kept", none, "a=abc b=xy e=")
			last.Crash(4, torn)
			has(t, name+", the last one kept", last, "a=abc b=xy e= w=456")
			behind.Crash(2, torn)
			has(t, name+", the one behind kept", behind, "a=abc123 b=xy e=")
		}
	}
}

// 'When the power fails': what is kept of a file that is not there then.
func TestKeptOfNoFile(t *testing.T) {
	for _, x := range []struct {
		name string
		do   func(*Disk) api.Errno
		want string
	}{
		{"Append", func(d *Disk) api.Errno { return d.Append("n", "4") }, "a=abc b=xy e= n=4"},
		{"Append of nothing", func(d *Disk) api.Errno { return d.Append("n", "") }, "a=abc b=xy e= n="},
		{"Write", func(d *Disk) api.Errno { return d.Write("n", "5") }, "a=abc b=xy e= n=5"},
		{"Write of nothing", func(d *Disk) api.Errno { return d.Write("n", "") }, "a=abc b=xy e= n="},
		{"Move", func(d *Disk) api.Errno { return d.Move("n", "c") }, "a=abc b=xy e="},
		{"Move onto a file", func(d *Disk) api.Errno { return d.Move("n", "a") }, "a=abc b=xy e="},
		{"Remove", func(d *Disk) api.Errno { return d.Remove("n") }, "a=abc b=xy e="},
		{"Truncate", func(d *Disk) api.Errno { return d.Truncate("n", 1) }, "a=abc b=xy e="},
		{"Truncate to 0", func(d *Disk) api.Errno { return d.Truncate("n", 0) }, "a=abc b=xy e="},
	} {
		d := made(t)
		ok(t, "Append", d.Append("n", "123"))
		ok(t, x.name, x.do(d))
		d.Crash(2, 0)
		has(t, x.name, d, x.want)
	}
}

// 'When the power fails': what is kept behind a Move, a Remove or a Truncate that is not.
func TestKeptOfAnotherFile(t *testing.T) {
	d := made(t)
	ok(t, "Move", d.Move("a", "c"))
	ok(t, "Append", d.Append("c", "1"))
	ok(t, "Write", d.Write("a", "2"))
	d.Crash(6, 9)
	has(t, "behind a Move", d, "a=2 b=xy c=1 e=")
	d = made(t)
	ok(t, "Remove", d.Remove("a"))
	ok(t, "Append", d.Append("a", "1"))
	d.Crash(2, 9)
	has(t, "behind a Remove", d, "a=abc1 b=xy e=")
	d = made(t)
	ok(t, "Truncate", d.Truncate("a", 0))
	ok(t, "Append", d.Append("a", "1"))
	d.Crash(2, 9)
	has(t, "behind a Truncate", d, "a=abc1 b=xy e=")
}

// 'When the power fails': a file is cut to no more than it has.
func TestKeptCut(t *testing.T) {
	for torn, want := range []string{"a=abc", "a=abc1", "a=abc12", "a=abc12", "a=abc12"} {
		d := made(t)
		ok(t, "Append", d.Append("a", "1234"))
		ok(t, "Truncate", d.Truncate("a", 5))
		d.Crash(2, torn)
		has(t, fmt.Sprint("torn at ", torn), d, want+" b=xy e=")
	}
	d := made(t)
	ok(t, "Write", d.Write("a", "12"))
	ok(t, "Append", d.Append("a", "3456"))
	ok(t, "Truncate", d.Truncate("a", 4))
	d.Crash(5, 0)
	has(t, "of a shorter file", d, "a=12 b=xy e=")
}

// Promise 3.2: what survived is sure; a second Crash of a dead disk does nothing; what Up answers.
func TestCrashAndUp(t *testing.T) {
	d := made(t)
	same(t, "Up of one with power", d.Up(), false)
	ok(t, "Append", d.Append("a", "1"))
	ok(t, "Append", d.Append("b", "2"))
	same(t, "Up of one with power", d.Up(), false)
	same(t, "what Up leaves", look(d), state{false, 7, 5, 2, "a=abc1 b=xy2 e="})
	d.Crash(2, 0)
	want := state{true, 6, 5, 0, "a=abc b=xy2 e="}
	same(t, "Crash", look(d), want)
	for _, keep := range []int{0, 1, -1} {
		d.Crash(keep, 1)
		same(t, "a second Crash", look(d), want)
	}
	same(t, "Up", d.Up(), true)
	same(t, "Up again", d.Up(), false)
	want.dead = false
	same(t, "Up", look(d), want)
	d.Crash(0, 0)
	d.Up()
	same(t, "what survived is sure", look(d), want)
	ok(t, "Append", d.Append("b", "3"))
	same(t, "it goes on", look(d), state{false, 7, 6, 1, "a=abc b=xy23 e="})
	d.Crash(1, 0)
	d.Up()
	same(t, "the first loose one has bit 0 again", look(d), state{false, 7, 6, 0, "a=abc b=xy23 e="})
}

// 'A fall': it strikes ahead of the change with its number, whatever kind that is.
func TestFallStrikes(t *testing.T) {
	for _, x := range changesOf() {
		d := made(t)
		d.Plan([]api.Fall{{At: 5, Keep: 2, Torn: 1}})
		ok(t, "change 3", d.Append("b", "123"))
		ok(t, "change 4", d.Append("b", "4"))
		same(t, x.name, x.do(d, "a"), api.ErrDead)
		same(t, x.name, look(d), state{true, 7, 5, 0, "a=abc b=xy14 e="})
		same(t, "again", x.do(d, "a"), api.ErrDead)
		same(t, "Up", d.Up(), true)
		ok(t, x.name+", when it has struck", x.do(d, "a"))
		same(t, "change 5", d.Changes(), 6)
		same(t, "loose", d.Loose(), 1)
	}
}

// 'A fall': the change at which it strikes is not one that may be kept.
func TestFallAheadOfTheChange(t *testing.T) {
	d := made(t)
	d.Plan([]api.Fall{{At: 3, Keep: -1, Torn: 9}})
	same(t, "Append", d.Append("a", "1"), api.ErrDead)
	same(t, "nothing of it", look(d), state{true, 5, 3, 0, "a=abc b=xy e="})
	d = New()
	d.Plan([]api.Fall{{At: 0, Keep: -1, Torn: 9}})
	same(t, "the first of all", d.Append("a", "1"), api.ErrDead)
	same(t, "nothing of it", look(d), state{dead: true})
}

// 'A fall': nothing but changes is struck.
func TestFallAtChangesAlone(t *testing.T) {
	d := made(t)
	d.Plan([]api.Fall{{At: 3}})
	ok(t, "Sync", d.Sync())
	_, e := d.Read("a")
	ok(t, "Read", e)
	d.Names()
	d.Room(9)
	d.Up()
	d.Clone().Remove("a")
	same(t, "Dead", d.Dead(), false)
	d.Crash(0, 0)
	d.Up()
	same(t, "a Crash of another kind leaves the plan", d.Remove("b"), api.ErrDead)
}

// 'A fall': of several at one change the first of the plan strikes; each strikes once; numbers may come in any order.
func TestFallsAtOneChange(t *testing.T) {
	d := made(t)
	d.Plan([]api.Fall{{At: 6, Keep: 1}, {At: 4, Keep: 1}, {At: 4, Keep: 0}, {At: 3, Keep: 0}, {At: 4, Keep: 1}})
	same(t, "At 3", d.Append("a", "1"), api.ErrDead)
	d.Up()
	want := "abc"
	ok(t, "change 3", d.Append("a", "1"))
	for i, kept := range []string{"1", "", ""} { // behind the first one nothing is loose that might be kept
		same(t, fmt.Sprint("At 4, fall ", i), d.Append("a", "2"), api.ErrDead)
		want += kept
		same(t, fmt.Sprint("At 4, fall ", i), look(d), state{true, 2 + len(want), 4, 0, "a=" + want + " b=xy e="})
		d.Up()
	}
	ok(t, "change 4", d.Append("a", "2"))
	ok(t, "change 5", d.Append("a", "3"))
	same(t, "At 6", d.Append("a", "4"), api.ErrDead)
	d.Up()
	ok(t, "change 6", d.Append("a", "4"))
	ok(t, "change 7", d.Append("a", "5"))
	has(t, "the plan is done", d, "a=abc1245 b=xy e=")
}

// 'A fall': the first of two in the plan says what is kept, whichever says more.
func TestFallsInTheirOrder(t *testing.T) {
	for i, want := range []string{"a=abc b=xy e=", "a=abc12 b=xy e="} {
		d := made(t)
		falls := []api.Fall{{At: 4, Keep: 0}, {At: 4, Keep: 1}}
		d.Plan([]api.Fall{falls[i], falls[1-i]})
		ok(t, "Append", d.Append("a", "12"))
		same(t, "Append", d.Append("a", "3"), api.ErrDead)
		has(t, fmt.Sprint("fall ", i), d, want)
	}
}

// Promise 3.2: falls at changes that have been, or never are, strike none.
func TestFallsThatDoNotStrike(t *testing.T) {
	d := made(t)
	d.Plan([]api.Fall{{At: 2}, {At: -1}, {At: 0}, {At: math.MinInt}, {At: math.MaxInt}})
	for range 10 {
		ok(t, "Append", d.Append("a", "1"))
	}
	same(t, "changes", d.Changes(), 13)
}

// Promise 3.2 and rule R2: a plan is laid in the place of the one ahead of it, is the disk's own, and may be laid while it is dead.
func TestPlan(t *testing.T) {
	d := made(t)
	d.Plan([]api.Fall{{At: 3}})
	d.Plan(nil)
	ok(t, "no plan", d.Append("a", "1"))
	d.Plan([]api.Fall{{At: 4}})
	d.Plan([]api.Fall{{At: 5}})
	ok(t, "another plan", d.Append("a", "2"))
	same(t, "another plan", d.Append("a", "3"), api.ErrDead)
	l := []api.Fall{{At: 9}, {At: 5}, {At: 6}}
	d.Plan(l)
	d.Up()
	l[1].At = 99
	same(t, "laid while dead", d.Append("a", "3"), api.ErrDead)
	d.Up()
	same(t, "a plan that is handed in", slices.Equal(l, []api.Fall{{At: 9}, {At: 99}, {At: 6}}), true)
	d.Plan([]api.Fall{{At: 5}})
	same(t, "the same fall in another plan", d.Append("a", "3"), api.ErrDead)
}

// Promise 3.2: a copy has all that the disk has.
func TestCloneIsTheSame(t *testing.T) {
	d := made(t)
	d.Room(8)
	d.Plan([]api.Fall{{At: 6, Keep: 2}})
	ok(t, "Append", d.Append("a", "1"))
	ok(t, "Append", d.Append("b", "2"))
	c := d.Clone()
	same(t, "Clone", look(c), look(d))
	for _, x := range []*Disk{c, d} {
		same(t, "room", x.Append("a", "12"), api.ErrFull)
		ok(t, "change 5", x.Append("a", "3"))
		same(t, "the plan", x.Append("a", ""), api.ErrDead)
		same(t, "what is sure, and what is loose", look(x), state{true, 6, 6, 0, "a=abc b=xy2 e="})
		dead := x.Clone()
		same(t, "a dead one", look(dead), look(x))
		same(t, "Up", dead.Up(), true)
		same(t, "Dead", x.Dead(), true)
		same(t, "one that has struck", dead.Append("a", ""), api.OK)
	}
}

// Promise 3.2 and rule R2: whatever is done to one of the two changes nothing of the other.
func TestCloneIsItsOwn(t *testing.T) {
	for _, turned := range []bool{false, true} {
		d := made(t)
		d.Plan([]api.Fall{{At: 5, Keep: 3}, {At: 5, Keep: 1}})
		ok(t, "Append", d.Append("a", "1"))
		c := d.Clone()
		if turned {
			c, d = d, c
		}
		ahead := look(d)
		for _, x := range changesOf() {
			x.do(c, "a")
			c.Up()
			same(t, x.name, look(d), ahead)
		}
		ok(t, "Sync", c.Sync())
		c.Room(0)
		c.Plan(nil)
		c.Crash(0, 0)
		same(t, "all of it", look(d), ahead)
		ok(t, "Append", d.Append("b", "2"))
		same(t, "the plan", d.Append("b", "3"), api.ErrDead)
		has(t, "what is loose", d, "a=abc1 b=xy2 e=")
	}
}

// Promise 3.2: loose changes of copies do not come into one another.
func TestCloneLoose(t *testing.T) {
	d := New()
	for range 5 {
		ok(t, "Append", d.Append("a", "0"))
	}
	c := d.Clone()
	ok(t, "Append", d.Append("a", "1"))
	ok(t, "Append", c.Append("a", "2"))
	d.Crash(-1, 0)
	c.Crash(-1, 0)
	has(t, "the disk", d, "a=000001")
	has(t, "the copy", c, "a=000002")
}

// Promise 3.2: a nil disk.
func TestNil(t *testing.T) {
	var d *Disk
	for _, n := range append(wrongNames(), "a") {
		for _, x := range changesOf() {
			same(t, x.name, x.do(d, n), api.ErrDead)
		}
		s, e := d.Read(n)
		same(t, "Read", s, "")
		same(t, "Read", e, api.ErrDead)
	}
	for n, f := range wrongChanges() {
		same(t, n, f(d), api.ErrDead)
	}
	same(t, "Sync", d.Sync(), api.ErrDead)
	d.Room(1)
	d.Crash(1, 1)
	d.Plan([]api.Fall{{}})
	same(t, "Dead", d.Dead(), true)
	same(t, "Up", d.Up(), false)
	same(t, "Used", d.Used(), 0)
	same(t, "Names", len(d.Names()), 0)
	same(t, "Changes", d.Changes(), 0)
	same(t, "Loose", d.Loose(), 0)
	same(t, "Clone", d.Clone(), nil)
}

// step is a change as the model holds it: what it does to files, as much of it as is told.
type step struct {
	do   func(f map[string]string, torn int)
	puts bool
}

// model is the document's words, put as plainly as can be: all changes since the last Sync are gone through again.
type model struct {
	files, sure map[string]string
	loose       []step
	plan        []api.Fall
	struck      []bool
	changes     int
	room        int
	dead        bool
}

func newModel() *model {
	return &model{files: map[string]string{}, sure: map[string]string{}, room: -1}
}

func (m *model) clone() *model {
	c := *m
	c.files, c.sure = maps.Clone(m.files), maps.Clone(m.sure)
	c.loose, c.plan, c.struck = slices.Clone(m.loose), slices.Clone(m.plan), slices.Clone(m.struck)
	return &c
}

func (m *model) used() int {
	return len(strings.Join(slices.Collect(maps.Values(m.files)), ""))
}

func (m *model) crash(keep, torn int) {
	if m.dead {
		return
	}
	gone := false
	for i, s := range m.loose {
		switch {
		case i < 62 && uint64(keep)&(1<<i) != 0:
			s.do(m.sure, math.MaxInt)
		case !gone:
			gone = true
			if s.puts && torn > 0 {
				s.do(m.sure, torn)
			}
		}
	}
	m.files, m.loose, m.dead = maps.Clone(m.sure), nil, true
}

// change does a step that nothing but the power can hinder.
func (m *model) change(s step) api.Errno {
	for i, f := range m.plan {
		if f.At == m.changes && !m.struck[i] {
			m.struck[i] = true
			m.crash(f.Keep, f.Torn)
			return api.ErrDead
		}
	}
	s.do(m.files, math.MaxInt)
	m.loose = append(m.loose, s)
	m.changes++
	return api.OK
}

// hinders is what all changes are refused for.
func (m *model) hinders(names ...string) api.Errno {
	if m.dead {
		return api.ErrDead
	}
	for _, n := range names {
		if len(n) == 0 || len(n) > 16 || strings.Trim(n, "abcdefghijklmnopqrstuvwxyz.") != "" {
			return api.ErrName
		}
	}
	return api.OK
}

func (m *model) put(name, s string, behind bool) api.Errno {
	if e := m.hinders(name); e != api.OK {
		return e
	}
	more := len(s)
	if !behind {
		more -= len(m.files[name])
	}
	if more > 0 && m.room >= 0 && m.used()+more > m.room {
		return api.ErrFull
	}
	return m.change(step{func(f map[string]string, torn int) {
		old := ""
		if behind {
			old = f[name]
		}
		f[name] = old + s[:min(torn, len(s))]
	}, true})
}

func (m *model) move(name, to string) api.Errno {
	if e := m.hinders(name, to); e != api.OK {
		return e
	}
	if _, there := m.files[name]; !there {
		return api.ErrNone
	}
	if name == to {
		return api.ErrArg
	}
	return m.change(step{func(f map[string]string, _ int) {
		if s, there := f[name]; there {
			f[to] = s
			delete(f, name)
		}
	}, false})
}

func (m *model) cut(name string, n int, whole bool) api.Errno {
	if e := m.hinders(name); e != api.OK {
		return e
	}
	s, there := m.files[name]
	if !there {
		return api.ErrNone
	}
	if !whole && (n < 0 || n > len(s)) {
		return api.ErrArg
	}
	return m.change(step{func(f map[string]string, _ int) {
		if s, there := f[name]; there && len(s) > n {
			f[name] = s[:n]
		}
		if whole {
			delete(f, name)
		}
	}, false})
}

func (m *model) sync() api.Errno {
	if m.dead {
		return api.ErrDead
	}
	m.sure, m.loose = maps.Clone(m.files), nil
	return api.OK
}

func (m *model) look() state {
	var l []string
	for _, n := range slices.Sorted(maps.Keys(m.files)) {
		l = append(l, n+"="+m.files[n])
	}
	return state{m.dead, m.used(), m.changes, len(m.loose), strings.Join(l, " ")}
}

// pair is a disk, and the model of the same calls.
type pair struct {
	d *Disk
	m *model
}

// falls is a plan of some falls near the next changes.
func falls(r *rand.Rand, changes int) []api.Fall {
	l := make([]api.Fall, r.Intn(5))
	for i := range l {
		l[i] = api.Fall{At: changes + r.Intn(90) - 2, Keep: keep(r), Torn: r.Intn(8) - 2}
	}
	return l
}

// keep is bits by chance, of which sometimes nearly all, or nearly none, are set.
func keep(r *rand.Rand) int {
	k := int(r.Uint64())
	switch r.Intn(4) {
	case 0:
		return -1
	case 1:
		return k | int(r.Uint64()) | int(r.Uint64()) | int(r.Uint64())
	case 2:
		return k & int(r.Uint64()) & int(r.Uint64())
	}
	return k
}

// play does one thing by chance to both of a pair: what it was, and what they answered.
func (p pair) play(r *rand.Rand, quiet bool) (string, api.Errno, api.Errno) {
	names := []string{"a", "b", "c", "log", "log.new", "abcdefghijklmnop", ".", "", "B", "abcdefghijklmnopq"}
	pick := func() string { return names[min(r.Intn(60)/7, r.Intn(len(names)))] }
	n, to, s := pick(), pick(), strings.Repeat(string(rune('0'+r.Intn(10))), r.Intn(6))
	kind := r.Intn(46)
	if quiet { // changes alone: many are loose, then
		kind = r.Intn(36)
	}
	switch {
	case kind < 14:
		return "Append", p.d.Append(n, s), p.m.put(n, s, true)
	case kind < 22:
		return "Write", p.d.Write(n, s), p.m.put(n, s, false)
	case kind < 27:
		return "Move", p.d.Move(n, to), p.m.move(n, to)
	case kind < 30:
		return "Remove", p.d.Remove(n), p.m.cut(n, 0, true)
	case kind < 36:
		cut := r.Intn(12) - 1
		return "Truncate", p.d.Truncate(n, cut), p.m.cut(n, cut, false)
	case kind < 39:
		return "Sync", p.d.Sync(), p.m.sync()
	case kind < 40:
		room := r.Intn(80) - 20
		p.d.Room(room)
		p.m.room = room
		return "Room", 0, 0
	case kind < 41:
		p.m.plan = falls(r, p.m.changes)
		p.m.struck = make([]bool, len(p.m.plan))
		p.d.Plan(p.m.plan)
		return "Plan", 0, 0
	case kind < 42:
		k, torn := keep(r), r.Intn(8)-2
		p.d.Crash(k, torn)
		p.m.crash(k, torn)
		return "Crash", 0, 0
	}
	was := p.m.dead
	p.m.dead = false
	if p.d.Up() != was {
		return "Up", 1, 0
	}
	return "Up", 0, 0
}

// Promises 3.1 and 3.2: chance calls, on disks and on their copies, against the words of the document.
func TestAgainstModel(t *testing.T) {
	for seed := range 300 {
		r := rand.New(rand.NewSource(int64(seed)))
		pairs := []pair{{New(), newModel()}}
		for i := range 400 {
			p := pairs[r.Intn(len(pairs))]
			what, got, want := p.play(r, seed%3 == 0 && i%100 < 96)
			if got != want {
				t.Fatalf("seed %d, call %d, %s: %d, not %d", seed, i, what, got, want)
			}
			if r.Intn(100) == 0 && len(pairs) < 4 {
				pairs = append(pairs, pair{p.d.Clone(), p.m.clone()})
			}
			for _, p := range pairs {
				if got, want := look(p.d), p.m.look(); got != want {
					t.Fatalf("seed %d, call %d, %s: %+v, not %+v", seed, i, what, got, want)
				}
			}
		}
	}
}

// Rule R4: the same calls answer the same, however often.
func TestSameCallsSameAnswers(t *testing.T) {
	run := func() string {
		r := rand.New(rand.NewSource(7))
		p := pair{New(), newModel()}
		out := ""
		for range 300 {
			what, e, _ := p.play(r, false)
			out += fmt.Sprint(what, e, look(p.d), p.d.Names())
		}
		return out
	}
	first := run()
	for range 5 {
		same(t, "the same calls", run(), first)
	}
}
