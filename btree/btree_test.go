package btree

import (
	"fmt"
	"math"
	"slices"
	"strings"
	"testing"

	"cupel/api"
	"cupel/disk"
	"cupel/wal"
)

var (
	longestKey   = strings.Repeat("k", api.MaxKey)
	longestValue = strings.Repeat("v", api.MaxValue)
)

// Promise 6.1: a tree without keys, and one with any root that is below 0.
func TestTreeWithoutKeys(t *testing.T) {
	for _, root := range []int{-1, -2, -77, math.MinInt32, math.MinInt} {
		l := open(t, disk.New())
		x := made(t, l, root)
		for range 2 {
			same(t, "Root", x.Root(), -1)
			for _, key := range []string{"", "a", "\xff", longestKey + "k"} {
				absent(t, x, key)
				same(t, "All", pairs(x, key), "")
			}
			list, read := x.Pages()
			same(t, "how many pages", len(list), 0)
			same(t, "Pages", read, true)
			put(t, made(t, l, root), "a") // another tree, which changes nothing of this one
		}
		same(t, "what waits", l.Waits() > 0, true)
		put(t, x, "a")
		same(t, "All", pairs(x, ""), "a=of a;")
	}
}

// Promise 6.1: New's errors: a nil log, a place at which no record begins, a record that is no page.
func TestNewOfWhatIsNotThere(t *testing.T) {
	refused := func(name string, x *Tree, e, want api.Errno) {
		t.Helper()
		same(t, name, e, want)
		same(t, name+": the tree", x, nil)
	}
	for _, root := range []int{math.MinInt, -1, 0, 1, math.MaxInt} {
		x, e := New(nil, root)
		refused("a nil log", x, e, api.ErrArg)
	}
	l := open(t, disk.New())
	first, second := leaf(t, l, "a"), leaf(t, l, "b")
	for _, root := range []int{first + 1, second - 1, second + 1, l.Waits(), math.MaxInt32, math.MaxInt} {
		x, e := New(l, root)
		refused(fmt.Sprint("a root at ", root), x, e, api.ErrNone)
	}
	for s, want := range map[string]api.Errno{
		"":                          api.ErrCut,
		"\x01":                      api.ErrCut,
		"\x01\x00\x00":              api.ErrMore,
		"\x02":                      api.ErrForm,
		"\x00\x00\x00\x00\x00\x00":  api.ErrForm,
		"\x01\x01\x41\x00\x00\x00k": api.ErrMany,
	} {
		at, e := l.Append(s)
		ok(t, "Append", e)
		x, e := New(l, at)
		refused(fmt.Sprintf("a root %q", s), x, e, want)
	}
	same(t, "a root in the front", pairs(made(t, l, first), ""), "a=of a;")
	same(t, "a root behind others", pairs(made(t, l, second), ""), "b=of b;")
	same(t, "Root", made(t, l, second).Root(), second)
	_, e := New(l, -1)
	ok(t, "New without a root", e)
}

// Promise 6.1: of a root only its page is read.
func TestNewReadsTheRootAlone(t *testing.T) {
	l := open(t, disk.New())
	root := node(t, l, []string{"b"}, math.MaxInt32, math.MaxInt32)
	same(t, "Root", made(t, l, root).Root(), root)
}

// Promise 6.1: keys put, put again, got and taken away in one leaf.
func TestOneLeaf(t *testing.T) {
	x, l := fresh(t)
	put(t, x, letters("dbacfehg")...)
	same(t, "eight keys", shape(t, l, x.Root()), "[a b c d e f g h]")
	for _, key := range letters("abcdefgh") {
		got(t, x, key, valueOf(key))
	}
	for _, key := range []string{"", "A", "aa", "b\x00", "i", "\xff", longestKey + "k"} {
		absent(t, x, key)
	}
	ok(t, "Put again", x.Put("c", "another"))
	ok(t, "Put of no bytes", x.Put("d", ""))
	got(t, x, "c", "another")
	got(t, x, "d", "")
	got(t, x, "e", "of e")
	same(t, "put again", shape(t, l, x.Root()), "[a b c d e f g h]")
	gone(t, x, "c", "a", "h")
	for _, key := range letters("cah") {
		absent(t, x, key)
	}
	same(t, "All", pairs(x, ""), "b=of b;d=;e=of e;f=of f;g=of g;")
	put(t, x, "c")
	got(t, x, "c", "of c")
	gone(t, x, letters("bcdef")...)
	same(t, "a root may have one key", shape(t, l, x.Root()), "[g]")
}

// Promise 6.1: a key of one byte, of any bytes and of the most, values of none and of the most; those that may not be change nothing.
func TestKeysAndValuesThatMayAndMayNotBe(t *testing.T) {
	for _, x := range []func() *Tree{
		func() *Tree { x, _ := fresh(t); return x },
		func() *Tree { x, _ := planted(t, "([a b c d] e [e f g h])"); return x },
	} {
		x := x()
		root, told, waits := x.Root(), pairs(x, ""), x.log.Waits()
		for _, pair := range [][2]string{
			{"", ""}, {"", "v"}, {"", longestValue + "v"},
			{longestKey + "k", ""}, {longestKey + "k", longestValue + "v"}, {longestValue, "v"},
			{"a", longestValue + "v"}, {"new", longestValue + "v"}, {longestKey, longestValue + longestValue},
		} {
			same(t, fmt.Sprintf("Put of %.9q", pair), x.Put(pair[0], pair[1]), api.ErrArg)
		}
		same(t, "Root", x.Root(), root)
		same(t, "All", pairs(x, ""), told)
		same(t, "what waits", x.log.Waits(), waits)
		absent(t, x, "")
		absent(t, x, longestKey+"k")
		for _, key := range []string{"\x00", "\xff", "a", "a\x00", longestKey, strings.Repeat("\xff", api.MaxKey)} {
			for _, value := range []string{"", "\x00", longestValue} {
				ok(t, "Put", x.Put(key, value))
				got(t, x, key, value)
			}
			gone(t, x, key)
			absent(t, x, key)
		}
	}
}

// Promise 6.1: a tree whose pages have the longest keys and values.
func TestGreatestPages(t *testing.T) {
	x, _ := fresh(t)
	var keys []string
	for i := range 30 {
		keys = append(keys, fmt.Sprintf("%s%02d", longestKey[2:], i))
		ok(t, "Put", x.Put(keys[i], longestValue[2:]+fmt.Sprintf("%02d", i)))
	}
	for i, key := range keys {
		got(t, x, key, longestValue[2:]+fmt.Sprintf("%02d", i))
	}
	gone(t, x, keys...)
	same(t, "Root", x.Root(), -1)
}

// Promise 6.1: All from a key that is there, from one that is not, from the empty text, and from behind all.
func TestAllFrom(t *testing.T) {
	keys := letters("bdfhjlnprtvxz")
	for _, words := range []string{
		"([b d f h] j [j l n p] r [r t v x z])",
		"([b d f h] i [j l n p] q [r t v x z])",
		"(([b d] e [f h j]) k ([l n] o [p r] s [t v x z]))",
	} {
		x, l := planted(t, words)
		waits := l.Waits()
		for _, from := range append(letters("abcdefghijklmnopqrstuvwxyz{"), "", "b\x00", "bz", "az", "\x00", "\xff", longestKey+"k", "zz") {
			at, _ := slices.BinarySearch(keys, from)
			for range 2 {
				same(t, fmt.Sprintf("%s: All from %q", words, from), pairs(x, from), valued(keys[at:]...))
			}
		}
		same(t, "what waits", l.Waits(), waits)
	}
	x, _ := planted(t, "[b d f]")
	for from, want := range map[string]string{"": "bdf", "b": "bdf", "c": "df", "d": "df", "f": "f"} {
		same(t, "a leaf from "+from, pairs(x, from), valued(letters(want)...))
	}
	same(t, "a leaf from behind all", pairs(x, "g"), "")
}

// Promise 6.1: All ends where it is left, at each of its keys.
func TestAllIsLeft(t *testing.T) {
	keys := letters("abcdefghijklm")
	x, _ := planted(t, "(([a b] c [c d e]) f ([f g] h [h i] j [j k l m]))")
	for n := range keys {
		told := ""
		for key, value := range x.All("") {
			told += key + "=" + value + ";"
			if key == keys[n] {
				break
			}
		}
		same(t, "left at "+keys[n], told, valued(keys[:n+1]...))
		calls := 0
		x.All("")(func(string, string) bool {
			calls++
			return calls <= n
		})
		same(t, "how often it is told", calls, n+1)
	}
}

// Rule R2: what All answers is of the tree at the call, whatever is put and taken away later, and while it is gone over.
func TestAllOfTheCall(t *testing.T) {
	x, _ := fresh(t)
	nothing := x.All("")
	keys := numbers(0, 60)
	put(t, x, keys...)
	for range nothing {
		t.Error("a tree without keys tells keys that were put later")
	}
	whole, rest := x.All(""), x.All("030")
	told := 0
	for key, value := range whole {
		same(t, "the key", key, keys[told])
		same(t, "its value", value, valueOf(key))
		gone(t, x, key)
		ok(t, "Put", x.Put(key+"+", "more"))
		told++
	}
	same(t, "how many", told, 60)
	gone(t, x, "059+")
	told = 0
	for key := range rest {
		same(t, "the key of the rest", key, keys[30+told])
		told++
	}
	same(t, "how many are the rest", told, 30)
	told = 0
	for key := range x.All("") {
		same(t, "the key of now", key, keys[told]+"+")
		told++
	}
	same(t, "how many are there now", told, 59)
}

// Promise 6.1: Pages has each page once, kids in their order, ahead of theirs, and is the caller's own.
func TestPages(t *testing.T) {
	x, l := fresh(t)
	for i, key := range numbers(0, 200) {
		put(t, x, key)
		waits := l.Waits()
		list, read := x.Pages()
		same(t, "Pages", read, true)
		if want := placesOf(t, x, x.Root()); !slices.Equal(list, want) {
			t.Fatalf("%d keys: the pages %d, not %d", i+1, list, want)
		}
		clear(list)
		again, _ := x.Pages()
		same(t, "the root is the last", again[len(again)-1], x.Root())
		same(t, "what waits", l.Waits(), waits)
	}
}

// placesOf is the places of the pages from one on, by their kids.
func placesOf(t *testing.T, x *Tree, at int) []int {
	t.Helper()
	var list []int
	for _, kid := range paged(t, x.log, at).Kids {
		list = append(list, placesOf(t, x, kid)...)
	}
	return append(list, at)
}

// Promise 6.1: a nil tree, and one that New did not make.
func TestNilTree(t *testing.T) {
	for _, x := range []*Tree{nil, new(Tree)} {
		same(t, "Root", x.Root(), -1)
		for _, key := range []string{"", "a", longestKey + "k"} {
			value, e := x.Get(key)
			same(t, "Get", e, api.ErrArg)
			same(t, "the value", value, "")
			same(t, "Put", x.Put(key, "v"), api.ErrArg)
			is, e := x.Delete(key)
			same(t, "Delete", e, api.ErrArg)
			same(t, "whether it was there", is, false)
			same(t, "All", pairs(x, key), "")
		}
		list, read := x.Pages()
		same(t, "how many pages", len(list), 0)
		same(t, "Pages", read, false)
		same(t, "Root", x.Root(), -1)
	}
}

// Promise 6.2: a tree with an earlier root has what it had, behind a commit and another opening, too.
func TestEarlierRoots(t *testing.T) {
	d := disk.New()
	l := open(t, d)
	x := made(t, l, -1)
	keys := numbers(0, 120)
	roots, told := []int{x.Root()}, []string{""}
	keep := func() {
		roots, told = append(roots, x.Root()), append(told, pairs(x, ""))
	}
	hold := func(name string, l *wal.Log) {
		t.Helper()
		for i, root := range roots {
			same(t, fmt.Sprint(name, ": root ", i), pairs(made(t, l, root), ""), told[i])
		}
	}
	for _, key := range keys {
		put(t, x, key)
		keep()
	}
	for i, key := range keys {
		ok(t, "Put again", x.Put(key, "other"))
		gone(t, x, keys[(i*77)%120])
		put(t, x, key)
		keep()
	}
	hold("waiting", l)
	branch := made(t, l, roots[50])
	put(t, branch, "zzz")
	same(t, "a branch", pairs(branch, ""), told[50]+valued("zzz"))
	ok(t, "Commit", l.Commit("r"))
	put(t, x, "more")
	d.Crash(0, 0)
	d.Up()
	hold("opened again", open(t, d))
}

// Promise 6.1: what is done appends the pages on its way alone; a page that is there is not changed.
func TestOnlyTheWayIsAppended(t *testing.T) {
	x, l := planted(t, "("+tens(10, 5)+" 200 "+tens(20, 5)+" 300 "+tens(30, 5)+")")
	before, _ := x.Pages()
	texts := map[int]string{}
	for _, at := range before {
		texts[at], _ = l.Read(at)
	}
	put(t, x, "205")
	ok(t, "Put again", x.Put("300", "other"))
	gone(t, x, "205")
	after, _ := x.Pages()
	fresh := 0
	for _, at := range after {
		if !slices.Contains(before, at) {
			fresh++
		}
	}
	same(t, "pages that were not there", fresh, 5)
	for at, text := range texts {
		s, e := l.Read(at)
		ok(t, "Read", e)
		same(t, "a page that was there", s, text)
	}
}

// Rule R4: the same calls lay the same bytes.
func TestTheSameCalls(t *testing.T) {
	files := [2]string{}
	for i := range files {
		d := disk.New()
		l := open(t, d)
		x := made(t, l, -1)
		for n := range 300 {
			put(t, x, fmt.Sprintf("%03d", n*n%311))
			if n%3 == 0 {
				x.Delete(fmt.Sprintf("%03d", n*7%311))
			}
		}
		ok(t, "Commit", l.Commit("r"))
		files[i], _ = d.Read("log")
	}
	same(t, "the files", files[0] == files[1], true)
}
