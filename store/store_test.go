package store

import (
	"fmt"
	"math"
	"slices"
	"strings"
	"testing"

	"cupel/api"
	"cupel/disk"
)

// The chapter's example.
func TestExample(t *testing.T) {
	s, d := fresh(t)
	same(t, "Apply", s.Apply([]api.Change{put("a", "1"), put("", "")}), api.ErrArg)
	sure(t, "neither is done", d, s, nil)
	same(t, "changes", d.Changes(), 0)
}

// Promise 7.1: a store on an empty disk has nothing, and lays nothing.
func TestEmptyDisk(t *testing.T) {
	s, d := fresh(t)
	for range 2 {
		for _, key := range []string{"", "a", "\xff", longestKey, longestKey + "k"} {
			absent(t, s, key)
			same(t, "All", words(s, key), "")
			value, e := s.At(s.Snapshot(), key)
			same(t, "At", e, api.ErrNone)
			same(t, "At", value, "")
		}
		same(t, "Snapshot", s.Snapshot(), -1)
		same(t, "Len", s.Len(), 0)
		same(t, "files", len(d.Names()), 0)
		s = opened(t, d)
	}
	sure(t, "nothing", d, s, nil)
	ok(t, "Apply of nothing", s.Apply(nil))
	same(t, "the file", fileOf(d), rooted(-1))
	sure(t, "nothing is committed", d, s, nil)
}

// Words: a marker's text is the root's place and 1, a count.
func TestMarkersText(t *testing.T) {
	s, d := fresh(t)
	apply(t, s, put("a", "1"))
	want := rec(leafOf(put("a", "1"))) + rooted(0)
	same(t, "one key", fileOf(d), want)
	same(t, "Snapshot", s.Snapshot(), 0)
	same(t, "Len", s.Len(), len(want))

	apply(t, s, put("b", ""))
	root := len(want)
	want += rec(leafOf(put("a", "1"), put("b", ""))) + rooted(root)
	same(t, "two keys", fileOf(d), want)
	same(t, "Snapshot", s.Snapshot(), root)

	apply(t, s, gone("a"), gone("b"))
	want += rec(leafOf(put("b", ""))) + rooted(-1)
	same(t, "no keys", fileOf(d), want)
	same(t, "Snapshot", s.Snapshot(), -1)
	same(t, "Len", s.Len(), len(want))
	sure(t, "no keys", d, s, nil)
}

// Promise 7.1: changes that are put, put again, and that go; behind an opening, too.
func TestChanges(t *testing.T) {
	s, d := fresh(t)
	var m model
	for _, l := range [][]api.Change{
		puts("b"), puts("a", "c"), {put("b", "another")}, {put("b", "")}, {gone("a")}, {gone("a")}, puts("a", "aa", "aaa"),
		puts(numbers(100, 50)...), {gone("120"), put("120", "again"), gone("121")}, {gone("b"), gone("c"), gone("aa")},
	} {
		for _, reopens := range []bool{false, true} {
			ok(t, "Apply", s.Apply(l))
			m = m.with(l...)
			sure(t, fmt.Sprint(l), d, s, m)
			if reopens {
				s = opened(t, d)
			}
		}
	}
	for key := range m {
		apply(t, s, gone(key))
		absent(t, s, key)
	}
	sure(t, "all gone", d, s, nil)
	apply(t, s, puts("a")...)
	sure(t, "one is put", d, s, model{"a": "of a"})
}

// Promise 7.1: changes of one call are done one behind the other.
func TestOneBehindTheOther(t *testing.T) {
	for _, l := range [][]api.Change{
		{put("x", "1"), put("x", "2")},
		{put("x", "1"), put("x", "2"), put("x", "1")},
		{put("x", "1"), gone("x")},
		{gone("x"), put("x", "1")},
		{put("x", "1"), gone("x"), put("x", "2"), gone("x"), put("x", "3")},
		{gone("a"), put("a", "")},
		{gone("a"), gone("b"), gone("c")},
		{gone("a"), gone("a"), put("b", "x"), gone("b"), put("a", "y")},
	} {
		s, d := fresh(t)
		apply(t, s, puts("a", "b", "c")...)
		changes := d.Changes()
		ok(t, "Apply", s.Apply(l))
		same(t, "changes of the disk", d.Changes()-changes, 1)
		sure(t, fmt.Sprint(l), d, s, model{}.with(puts("a", "b", "c")...).with(l...))
	}
}

// Promise 7.1: a key that goes and is not there does nothing; no key of which a store may have none is.
func TestKeysThatGoAndAreNotThere(t *testing.T) {
	absentees := []api.Change{
		gone("b"), gone(""), gone("\x00"), gone(longestKey + "k"), gone(longestValue), {Key: "b", Value: longestValue + "v", Gone: true},
	}
	for _, m := range []model{nil, {"a": "1"}, model{}.with(puts(numbers(100, 60)...)...)} {
		s, d := filled(t, m)
		root := s.Snapshot()
		for _, c := range absentees {
			ok(t, "Apply", s.Apply([]api.Change{c}))
			sure(t, fmt.Sprintf("%.80q goes", c.Key), d, s, m)
			same(t, "the root", s.Snapshot(), root)
		}
		ok(t, "Apply", s.Apply(absentees))
		l := slices.Concat(absentees, puts("z"), absentees, []api.Change{gone("a")})
		ok(t, "Apply", s.Apply(l))
		sure(t, "what stands between them is done", d, s, m.with(l...))
	}
}

// Promise 7.1: MaxBatch changes are done, more are not, whatever they are.
func TestMany(t *testing.T) {
	s, d := fresh(t)
	keys := numbers(100, api.MaxBatch)
	ok(t, "the most", s.Apply(puts(keys...)))
	m := model{}.with(puts(keys...)...)
	sure(t, "the most", d, s, m)
	file := fileOf(d)
	for _, l := range [][]api.Change{
		puts(numbers(200, api.MaxBatch+1)...),
		slices.Repeat([]api.Change{gone("100")}, api.MaxBatch+1),
		slices.Repeat([]api.Change{gone("none")}, api.MaxBatch+1),
		slices.Repeat([]api.Change{put("", "")}, api.MaxBatch+1),
		slices.Repeat(puts("x"), 100*api.MaxBatch),
	} {
		same(t, "Apply", s.Apply(l), api.ErrMany)
		same(t, "the file", fileOf(d), file)
	}
	sure(t, "too many", d, s, m)
	d.Crash(0, 0)
	same(t, "without power", s.Apply(puts(numbers(200, api.MaxBatch+1)...)), api.ErrMany)
}

// Promise 7.1: with a change that may not be, wherever it stands, none is done, and nothing of it is left behind.
func TestChangesThatMayNotBe(t *testing.T) {
	good := append(puts("b", "new", "x"), gone("a"), put("c", "other"))
	for _, m := range []model{nil, model{}.with(puts("a", "b", "c")...), model{}.with(puts(numbers(100, 60)...)...)} {
		s, d := filled(t, m)
		root, changes := s.Snapshot(), d.Changes()
		for _, wrong := range []api.Change{
			put("", ""), put("", "v"), put(longestKey+"k", ""), put("a", longestValue+"v"), put("new", longestValue+"v"), put("", longestValue+"v"),
		} {
			for i := range len(good) + 1 {
				same(t, "Apply", s.Apply(slices.Insert(slices.Clone(good), i, wrong)), api.ErrArg)
			}
			same(t, "the root", s.Snapshot(), root)
			same(t, "changes of the disk", d.Changes(), changes)
		}
		sure(t, "nothing is done", d, s, m)
		ok(t, "Apply", s.Apply(good))
		sure(t, "and then the good ones", d, s, m.with(good...))
		other, _ := filled(t, m)
		ok(t, "Apply", other.Apply(good))
		same(t, "as many bytes as without the wrong ones", s.Len(), other.Len())
	}
}

// Promise 7.1: keys and values of the fewest and of the most bytes, and of any.
func TestGreatestKeysAndValues(t *testing.T) {
	s, d := fresh(t)
	m := model{}
	for _, key := range []string{"\x00", "\xff", "a", "a\x00", longestKey, strings.Repeat("\xff", api.MaxKey), "\xc3", "ä"} {
		for _, value := range []string{longestValue, "", "\x00\xff"} {
			apply(t, s, put(key, value))
			m[key] = value
		}
	}
	sure(t, "any", d, s, m)
	var l []api.Change
	for i := range api.MaxBatch {
		l = append(l, put(fmt.Sprintf("%s%02d", longestKey[2:], i), longestValue))
	}
	ok(t, "as many as may be", s.Apply(l))
	sure(t, "as many as may be", d, s, m.with(l...))
}

// Promise 7.1: the keys that begin with a text, one that none begins with, and all; rising, with their values.
func TestAll(t *testing.T) {
	s, d := fresh(t)
	keys := append(numbers(95, 40), "1", "10", "a", "ab", "abc", "abd", "ac", "b", "\x00", "\x00\x00", "a\x00", "a\xff", "a\xffb", "\xff", "\xff\xff", "\xff\xffz", "ä", longestKey)
	slices.Reverse(keys)
	apply(t, s, puts(keys...)...)
	m := model{}.with(puts(keys...)...)
	heads := append([]string{"", "0", "1", "10", "11", "13", "2", "A", "abe", "abcd", "aa", "z", "\x00\x00\x00", "\xc3", "\xfe", "\xff\xff\xff", longestKey[1:], longestKey + "k", longestValue}, keys...)
	for _, head := range heads {
		same(t, fmt.Sprintf("All of %.80q", head), words(s, head), m.words(head))
	}
	same(t, "some begin with it", strings.Count(words(s, "10"), ";"), 11)
	same(t, "one begins with it", words(s, "abc"), `"abc"="of abc";`)
	same(t, "none begins with it", words(s, "abe"), "")
	same(t, "all", strings.Count(words(s, ""), ";"), len(keys))
	sure(t, "all", d, s, m)
}

// Promise 7.1: what is gone over may be left at any place, and gone over again.
func TestAllIsLeft(t *testing.T) {
	s, _ := fresh(t)
	keys := numbers(100, 30)
	apply(t, s, puts(keys...)...)
	all := s.All("1")
	for n := range len(keys) {
		var told []string
		for key, value := range all {
			same(t, "the value", value, valueOf(key))
			told = append(told, key)
			if len(told) > n {
				break
			}
		}
		same(t, "told", strings.Join(told, " "), strings.Join(keys[:n+1], " "))
	}
}

// Promise 7.1, rule R2: what All answers is what was there at the call, even if all is changed, and the log laid anew, between.
func TestAllOfTheCall(t *testing.T) {
	s, d := fresh(t)
	keys := numbers(100, 60)
	apply(t, s, puts(keys...)...)
	m := model{}.with(puts(keys...)...)
	all := s.All("1")
	n := 0
	for key, value := range all {
		same(t, "the key", key, keys[n])
		same(t, "the value", value, valueOf(key))
		n++
		apply(t, s, gone(key), put("2"+key, "other"))
		if n%7 == 0 {
			ok(t, "Compact", s.Compact())
		}
	}
	same(t, "told", n, len(keys))
	same(t, "now", words(s, "1"), "")
	same(t, "of now", strings.Count(words(s, "2"), ";"), len(keys))
	d.Crash(0, 0)
	told := ""
	for key, value := range all {
		told += fmt.Sprintf("%q=%q;", key, value)
	}
	same(t, "told again", told, m.words(""))
}

// Promise 7.2: by an earlier place a store has what it had, behind an opening, too.
func TestSnapshots(t *testing.T) {
	s, d := fresh(t)
	roots, models := []int{s.Snapshot()}, []model{nil}
	for i := range 80 {
		l := []api.Change{put(fmt.Sprintf("%03d", i*37%80), "x"), put("same", fmt.Sprint(i)), gone(fmt.Sprintf("%03d", i*11%80))}
		if i%20 == 19 {
			l = nil
			for key := range models[i] {
				l = append(l, gone(key))
			}
		}
		ok(t, "Apply", s.Apply(l))
		roots, models = append(roots, s.Snapshot()), append(models, models[i].with(l...))
	}
	hold := func(s *Store) {
		t.Helper()
		for i, root := range roots {
			for key := range models[50].with(puts(numbers(0, 80)...)...) {
				want, is := models[i][key]
				value, e := s.At(root, key)
				same(t, "At", value, want)
				same(t, "whether it is there", e == api.OK, is)
				same(t, "At's error", e == api.OK || e == api.ErrNone, true)
			}
		}
	}
	hold(s)
	same(t, "no keys", roots[20], -1)
	same(t, "not changed by At", s.Snapshot(), roots[80])
	d.Crash(0, 0)
	hold(s)
	d.Up()
	hold(opened(t, d))
}

// Promise 7.2: At of a place that is no root's.
func TestAtOfOtherPlaces(t *testing.T) {
	s, d := fresh(t)
	apply(t, s, puts("a")...)
	first := s.Snapshot()
	apply(t, s, puts("b")...)
	for _, root := range []int{-1, -2, math.MinInt, first + 1, s.Snapshot() - 1, s.Snapshot() + 1, s.Len(), s.Len() + 1, 1<<31 - 1, 1 << 31, math.MaxInt} {
		for _, key := range []string{"a", "b", "", longestKey + "k"} {
			value, e := s.At(root, key)
			same(t, fmt.Sprint("At of ", root), e, api.ErrNone)
			same(t, "the value", value, "")
		}
	}
	sure(t, "behind it", d, s, model{}.with(puts("a", "b")...))
	for text, want := range noPages() {
		d := with(t, rec(text)+rooted(-1))
		value, e := opened(t, d).At(0, "a")
		same(t, fmt.Sprintf("At of %q", text), e, want)
		same(t, "the value", value, "")
	}
}

// noPages is texts of records that are no pages, with their errors.
func noPages() map[string]api.Errno {
	return map[string]api.Errno{
		"":                          api.ErrCut,
		"\x01":                      api.ErrCut,
		"\x01\x00\x00":              api.ErrMore,
		"\x02":                      api.ErrForm,
		"\x00\x00\x00\x00\x00\x00":  api.ErrForm,
		"\x01\x01\x41\x00\x00\x00k": api.ErrMany,
	}
}

// refused tells that a disk does not open.
func refused(t *testing.T, name string, d *disk.Disk, want api.Errno) {
	t.Helper()
	for range 2 {
		s, e := Open(d)
		same(t, name, e, want)
		same(t, name+": the store", s, nil)
	}
}

// Promise 7.1: wal.Open's errors.
func TestOpenOfNoDisk(t *testing.T) {
	refused(t, "nil", nil, api.ErrArg)
	d := with(t, rec(leaf("a"))+rooted(0))
	d.Crash(0, 0)
	refused(t, "dead", d, api.ErrDead)
	d.Up()
	has(t, "with power", opened(t, d), model{"a": "of a"})
	d = with(t, "\x00\x00\x00\x00 no log at all")
	sure(t, "no log", d, opened(t, d), nil)
	d = with(t, mark("no place"))
	d.Crash(0, 0)
	refused(t, "dead, ahead of the marker's text", d, api.ErrDead)
}

// Promise 7.1: a last marker's text that says no place; those ahead of it say nothing.
func TestMarkersThatSayNoPlace(t *testing.T) {
	page := rec(leaf("a"))
	for _, text := range []string{
		"", "\x00", "\x01\x00\x00", "\x01\x00\x00\x00\x00", "\x00\x00\x00\x00\x00", "1", "no place", longestValue,
		count(1<<31 + 1), "\xff\xff\xff\xff", "\x00\x00\x00\xff",
	} {
		refused(t, fmt.Sprintf("%.80q", text), with(t, page+mark(text)), api.ErrForm)
		refused(t, fmt.Sprintf("%.80q behind another", text), with(t, page+rooted(0)+mark(text)), api.ErrForm)
		refused(t, fmt.Sprintf("%.80q alone", text), with(t, mark(text)), api.ErrForm)
		d := with(t, page+mark(text)+rooted(0))
		sure(t, fmt.Sprintf("%.80q ahead of another", text), d, opened(t, d), model{"a": "of a"})
		d = with(t, page+rooted(0)+mark(text)[:7])
		sure(t, fmt.Sprintf("%.80q that is torn", text), d, opened(t, d), model{"a": "of a"})
	}
}

// Promise 7.1: btree.New's errors; and what is there.
func TestOpenOfRoots(t *testing.T) {
	page := rec(leaf("a"))
	for _, root := range []int{1, len(page) - 1, len(page), len(page) + 1, 77777, 1<<31 - 2, 1<<31 - 1} {
		refused(t, fmt.Sprint("a root at ", root), with(t, page+rooted(root)), api.ErrNone)
	}
	for text, want := range noPages() {
		refused(t, fmt.Sprintf("a root %q", text), with(t, page+rec(text)+rooted(len(page))), want)
	}
	for file, want := range map[string]model{
		"":                                nil,
		page:                              nil,
		page + rooted(-1):                 nil,
		page + rooted(0):                  {"a": "of a"},
		page + rooted(0) + rooted(-1):     nil,
		page + rooted(-1) + rooted(0):     {"a": "of a"},
		page + rooted(0) + rec(leaf("b")): {"a": "of a"},
		page + rooted(0) + "torn":         {"a": "of a"},
		page + rec(leaf("b")) + rooted(0): {"a": "of a"},
		page + rec(leaf("b")) + rooted(len(page)): {"b": "of b"},
		rec(leaf("a", "b")) + rec(leaf("m")) + rec(node([]string{"m"}, 0, len(rec(leaf("a", "b"))))) + rooted(len(rec(leaf("a", "b"))+rec(leaf("m")))): {"a": "of a", "b": "of b", "m": "of m"},
	} {
		d := with(t, file)
		s := opened(t, d)
		sure(t, fmt.Sprintf("%q", file), d, s, want)
		apply(t, s, puts("z")...)
		sure(t, fmt.Sprintf("%q, and a key", file), d, s, want.with(puts("z")...))
	}
}

// Promise 7.2: a nil store; rule R1: one that Open did not make counts as such.
func TestNilStore(t *testing.T) {
	for _, s := range []*Store{nil, {}} {
		for _, key := range []string{"", "a", longestKey + "k"} {
			value, e := s.Get(key)
			same(t, "Get", e, api.ErrArg)
			same(t, "Get", value, "")
			same(t, "All", words(s, key), "")
			for _, root := range []int{-1, 0, 1, math.MaxInt, math.MinInt} {
				value, e := s.At(root, key)
				same(t, "At", e, api.ErrArg)
				same(t, "At", value, "")
			}
			same(t, "Apply", s.Apply(puts(key)), api.ErrArg)
		}
		same(t, "Apply of nothing", s.Apply(nil), api.ErrArg)
		same(t, "Apply of too many", s.Apply(make([]api.Change, api.MaxBatch+1)), api.ErrArg)
		same(t, "Snapshot", s.Snapshot(), -1)
		same(t, "Compact", s.Compact(), api.ErrArg)
		same(t, "Len", s.Len(), 0)
	}
}

// Rule R2: what was handed in is not changed, and may be changed later.
func TestHandedIn(t *testing.T) {
	s, d := fresh(t)
	l := append(puts("c", "a", "b"), gone("c"), gone("none"))
	before := slices.Clone(l)
	ok(t, "Apply", s.Apply(l))
	same(t, "the list", slices.Equal(l, before), true)
	clear(l)
	sure(t, "the store", d, s, model{"a": "of a", "b": "of b"})
}

// Promise 7.1: without room for them no changes are done; with just enough they are.
func TestApplyWithoutRoom(t *testing.T) {
	for _, m := range []model{nil, model{}.with(puts(numbers(100, 30)...)...)} {
		s, d := filled(t, m)
		l := append(puts("a", "110", "z"), gone("100"))
		c := d.Clone()
		ok(t, "Apply", opened(t, c).Apply(l))
		need, root := c.Used(), s.Snapshot()
		for _, room := range []int{0, d.Used(), need - 1} {
			d.Room(room)
			same(t, "Apply", s.Apply(l), api.ErrFull)
			same(t, "the root", s.Snapshot(), root)
			sure(t, "no room", d, s, m)
		}
		d.Room(need)
		ok(t, "Apply", s.Apply(l))
		sure(t, "room", d, s, m.with(l...))
		same(t, "the file", fileOf(d), fileOf(c))
	}
}

// Promise 7.1: without power no changes are done; what was there is still told.
func TestApplyWithoutPower(t *testing.T) {
	s, d := fresh(t)
	m := model{}.with(puts(numbers(100, 30)...)...)
	apply(t, s, puts(numbers(100, 30)...)...)
	root, length := s.Snapshot(), s.Len()
	d.Crash(0, 0)
	for range 2 {
		same(t, "Apply", s.Apply(append(puts("a", "b"), gone("100"))), api.ErrDead)
		same(t, "Apply of nothing", s.Apply(nil), api.ErrDead)
		same(t, "Apply of what may not be", s.Apply(puts("")), api.ErrArg)
		same(t, "Compact", s.Compact(), api.ErrDead)
		has(t, "no power", s, m)
		same(t, "the root", s.Snapshot(), root)
		same(t, "Len", s.Len(), length)
	}
	reopened(t, "no power", d, m)
}

// Promise 7.1: pages below the root that can't be read: their errors; nothing is changed by them.
func TestPagesThatCantBeRead(t *testing.T) {
	for text, want := range noPages() {
		first := rec(leaf("a", "b"))
		file := first + rec(text)
		root := len(file)
		file += rec(node([]string{"k"}, 0, len(first))) + rooted(root)
		d := with(t, file)
		s := opened(t, d)
		name := fmt.Sprintf("%q", text)
		value, e := s.Get("m")
		same(t, name+": Get", e, want)
		same(t, name+": the value", value, "")
		value, e = s.At(root, "m")
		same(t, name+": At", e, want)
		same(t, name+": the value", value, "")
		same(t, name+": All", words(s, ""), model{"a": "of a", "b": "of b"}.words(""))
		same(t, name+": Apply", s.Apply(puts("c", "m")), want)
		same(t, name+": Apply", s.Apply([]api.Change{put("c", ""), gone("m")}), want)
		same(t, name+": Apply that joins", s.Apply([]api.Change{gone("a")}), want)
		same(t, name+": Compact", s.Compact(), api.ErrForm)
		same(t, name+": the root", s.Snapshot(), root)
		same(t, name+": the file", fileOf(d), file)
		ok(t, name+": Apply beside it", s.Apply(puts("c")))
		same(t, name+": All", words(s, ""), model{"a": "of a", "b": "of b", "c": "of c"}.words(""))
		same(t, name+": nothing is left behind", len(frames(t, fileOf(d)[len(file):])), 3)
	}
}
