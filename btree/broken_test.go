package btree

import (
	"fmt"
	"math"
	"slices"
	"testing"

	"cupel/api"
	"cupel/disk"
	"cupel/wal"
)

// refuses tells that all calls that come by a page of a tree which can't be read answer its error, and leave the tree as it was.
func refuses(t *testing.T, name string, x *Tree, key string, want api.Errno) {
	t.Helper()
	root := x.Root()
	value, e := x.Get(key)
	same(t, name+": Get", e, want)
	same(t, name+": the value", value, "")
	same(t, name+": Put", x.Put(key, "v"), want)
	is, e := x.Delete(key)
	same(t, name+": Delete", e, want)
	same(t, name+": whether it was there", is, false)
	unread(t, name, x)
	same(t, name+": Root", x.Root(), root)
}

// unread tells that the pages of a tree can't all be read.
func unread(t *testing.T, name string, x *Tree) {
	t.Helper()
	list, read := x.Pages()
	same(t, name+": Pages", read, false)
	same(t, name+": how many pages", len(list), 0)
}

// Promise 6.1: pages that can't be read: the errors of wal and page; All ends there; Pages tells it.
func TestPagesThatCantBeRead(t *testing.T) {
	for text, want := range map[string]api.Errno{
		"no record":                  api.ErrNone,
		"":                           api.ErrCut,
		"\x01\x00\x00":               api.ErrMore,
		"\x02":                       api.ErrForm,
		"\x01\x01\x41\x00\x00\x00kk": api.ErrMany,
	} {
		l := open(t, disk.New())
		bad := math.MaxInt32
		if text != "no record" {
			bad, _ = l.Append(text)
		}
		a, c := leaf(t, l, letters("abcd")...), leaf(t, l, letters("mnop")...)
		x := made(t, l, node(t, l, []string{"g", "m"}, a, bad, c))
		name := fmt.Sprintf("%q", text)
		refuses(t, name, x, "h", want)
		same(t, name+": All", pairs(x, ""), valued(letters("abcd")...))
		same(t, name+": All from it on", pairs(x, "g"), "")
		same(t, name+": All from behind it", pairs(x, "m"), valued(letters("mnop")...))
		got(t, x, "b", "of b")
		got(t, x, "n", "of n")
		absent(t, x, "e")
		ok(t, name+": Put beside it", x.Put("e", "v"))
		gone(t, x, "e")
		root := x.Root()
		is, e := x.Delete("m") // the leaf would be joined with the bad one
		same(t, name+": Delete beside it", e, want)
		same(t, name+": whether it was there", is, false)
		is, e = x.Delete("a") // the first one would be joined with the one behind it
		same(t, name+": Delete ahead of it", e, want)
		same(t, name+": whether it was there", is, false)
		same(t, name+": Root", x.Root(), root)
		unread(t, name, x)
	}
}

// Promise 6.1: a page of a deeper tree that can't be read.
func TestDeepPageThatCantBeRead(t *testing.T) {
	l := open(t, disk.New())
	a, b := leaf(t, l, "a", "b"), leaf(t, l, "c", "d")
	x := made(t, l, node(t, l, []string{"e"}, node(t, l, []string{"c"}, a, b), node(t, l, []string{"g"}, math.MaxInt32, math.MaxInt32)))
	refuses(t, "in the second kid", x, "f", api.ErrNone)
	same(t, "All", pairs(x, ""), valued(letters("abcd")...))
	is, e := x.Delete("b")
	ok(t, "Delete in the first kid, whose sibling can be read", e)
	same(t, "Delete", is, true)
}

// Promise 6.1: a tree whose pages were let go by the log.
func TestDroppedPages(t *testing.T) {
	d := disk.New()
	l := open(t, d)
	x := made(t, l, -1)
	put(t, x, "a", "b")
	sure := x.Root()
	ok(t, "Commit", l.Commit("r"))
	put(t, x, "c")
	l.Drop()
	refuses(t, "a root that was let go", x, "a", api.ErrNone)
	same(t, "All", pairs(x, ""), "")
	_, e := New(l, x.Root())
	same(t, "New", e, api.ErrNone)
	same(t, "what is committed", pairs(made(t, l, sure), ""), valued("a", "b"))
}

// ends tells that all calls come to an end, and that none changes a tree which it refuses.
func ends(t *testing.T, name string, x *Tree) {
	t.Helper()
	root := x.Root()
	for _, key := range []string{"", "a", "b", "k", "k\x00", "m", "z", "\xff"} {
		told := 0
		ahead := ""
		for now := range x.All(key) {
			if now < key || now <= ahead {
				t.Errorf("%s: All from %q tells %q behind %q", name, key, now, ahead)
			}
			ahead = now
			told++
		}
		same(t, name+": few are told", told < 100, true)
		x.Get(key)
		y := made(t, x.log, root)
		if e := y.Put(key, "v"); e == api.OK {
			got(t, y, key, "v")
		} else {
			same(t, name+": the root behind an error", y.Root(), root)
		}
		y = made(t, x.log, root)
		if is, e := y.Delete(key); e != api.OK {
			same(t, name+": the root behind an error", y.Root(), root)
			same(t, name+": whether it was there", is, false)
		}
	}
	x.Pages()
	same(t, name+": Root", x.Root(), root)
}

// Rule R1: pages that lie below themselves are gone through to an end: ErrForm.
func TestPagesBelowThemselves(t *testing.T) {
	for i := range 3 {
		l := open(t, disk.New())
		a := leaf(t, l, "a")
		kids := []int{a, a, a}
		kids[i] = l.Waits() // its own place
		x := made(t, l, node(t, l, []string{"k", "m"}, kids...))
		ends(t, fmt.Sprint("kid ", i), x)
		refuses(t, fmt.Sprint("kid ", i), x, []string{"a", "l", "z"}[i], api.ErrForm)
	}
	for i := range 2 {
		l := open(t, disk.New())
		kids := []int{leaf(t, l), leaf(t, l)}
		kids[i] = l.Waits()
		x := made(t, l, node(t, l, []string{"k"}, kids...))
		ends(t, fmt.Sprint("one key, kid ", i), x)
		refuses(t, fmt.Sprint("one key, kid ", i), x, []string{"a", "k"}[i], api.ErrForm)
	}
	l := open(t, disk.New())
	empty := leaf(t, l)
	first := node(t, l, []string{"k"}, empty, empty)
	second := l.Waits() // where a page would stand behind one as long as that
	l.Drop()
	leaf(t, l)
	node(t, l, []string{"k"}, empty, second)
	node(t, l, []string{"m"}, first, empty)
	ends(t, "two below each other", made(t, l, first))
	ends(t, "two below each other, from the other on", made(t, l, second))
	refuses(t, "two below each other", made(t, l, first), "l", api.ErrForm)
}

// Rule R1: a log in which few pages are kids of ever more, down to leaves without keys, is gone through to an end soon.
func TestPagesThatAreKidsOften(t *testing.T) {
	l := open(t, disk.New())
	at := leaf(t, l)
	keys := letters("abcdefgh")
	for range 60 {
		at = node(t, l, keys, slices.Repeat([]int{at}, 9)...)
		x := made(t, l, at)
		ends(t, "the same keys", x)
	}
	l = open(t, disk.New())
	at = leaf(t, l)
	for i := range 60 {
		at = node(t, l, []string{fmt.Sprintf("a%02d", 99-i)}, at, at)
		ends(t, "other keys", made(t, l, at))
	}
}

// Rule R1: keys that stand where the keys above do not leave them are refused, so that what is told rises.
func TestKeysInWrongKids(t *testing.T) {
	for _, parts := range [][2]string{{"xy", "mn"}, {"am", "mn"}, {"ab", "al"}, {"ab", "ls"}} {
		l := open(t, disk.New())
		x := made(t, l, node(t, l, []string{"m"}, leaf(t, l, letters(parts[0])...), leaf(t, l, letters(parts[1])...)))
		ends(t, parts[0]+" "+parts[1], x)
		unread(t, parts[0]+" "+parts[1], x)
	}
	x, _ := planted(t, "([a b] m [m n])")
	list, read := x.Pages()
	same(t, "a key in its kid", read, true)
	same(t, "how many pages", len(list), 3)
	for _, words := range []string{"([a b] m ([m n] m [p q]))", "(([a b] m [c d]) m [m n])", "(([a b] c [c d]) m ([m n] b [p q]))"} {
		x, _ := planted(t, words)
		ends(t, words, x)
		unread(t, words, x)
	}
}

// Rule R1: pages that no tree would lay, but can be read: too few keys, no keys, leaves and others side by side.
func TestOtherTrees(t *testing.T) {
	for _, words := range []string{
		"[]", "([] k [])", "([a] k [])", "([] k [k])", "([a] k [m])", "([a] b [b] k [k] m [m])",
		"(([a] b [b]) k ([k] m [m]))", "(([] b []) k ([] m []))",
		"([a] k ([k] m [m]))", "(([a] b [b]) k [m])", "([a b c d] k ([k] m [m]) n [n o p q])",
	} {
		x, l := planted(t, words)
		ends(t, words, x)
		same(t, "the words", shape(t, l, x.Root()), words)
		keys := keysOf(x)
		for _, key := range keys {
			got(t, x, key, valueOf(key))
		}
		list, read := x.Pages()
		same(t, words+": Pages", read, true)
		same(t, words+": the last page", list[len(list)-1], x.Root())
		put(t, x, "g")
		same(t, words+": put", len(keysOf(x)), len(keys)+1)
	}
	x, l := planted(t, "([a] k [m])")
	gone(t, x, "a")
	same(t, "few keys are joined", shape(t, l, x.Root()), "[m]")
	x, l = planted(t, "(([a] b [b]) k ([k] m [m]))")
	gone(t, x, "m")
	same(t, "few keys are joined below pages above", shape(t, l, x.Root()), "([a] b [b] k [k])")
}

// Rule R1: a page with too few keys is not joined with one of the other kind, be they few keys or many together.
func TestUnlikeKids(t *testing.T) {
	for _, c := range []struct{ words, key string }{
		{"([a] k ([k] m [m]))", "a"},
		{"(([k] m [m]) n [n])", "n"},
		{"([001 002 003 004] 100 " + tens(10, 9) + ")", "002"},
		{"(" + tens(10, 9) + " 900 [900 901 902 903])", "900"},
		{"([001] 100 (" + tens(10, 5) + " 150 " + tens(15, 5) + "))", "001"},
		{"(" + tens(10, 5) + " 900 [900 901 902 903])", "110"},
	} {
		x, l := planted(t, c.words)
		root := x.Root()
		is, e := x.Delete(c.key)
		same(t, c.words, e, api.ErrForm)
		same(t, c.words+": whether it was there", is, false)
		same(t, c.words+": Root", x.Root(), root)
		same(t, c.words+": what it has", shape(t, l, root), c.words)
		got(t, x, c.key, valueOf(c.key))
	}
}

// Rule R1: a log that Open did not make has no pages, and takes them.
func TestLogThatOpenDidNotMake(t *testing.T) {
	l := new(wal.Log)
	_, e := New(l, 0)
	same(t, "New with a root", e, api.ErrNone)
	x := made(t, l, -1)
	put(t, x, "a")
	got(t, x, "a", "of a")
}
