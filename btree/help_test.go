package btree

import (
	"fmt"
	"strings"
	"testing"

	"cupel/api"
	"cupel/disk"
	"cupel/page"
	"cupel/wal"
)

// same holds two comparable answers against each other.
func same[T comparable](t *testing.T, name string, got, want T) {
	t.Helper()
	if got != want {
		t.Errorf("%s: %#v, not %#v", name, got, want)
	}
}

// ok tells that a call answered no error.
func ok(t *testing.T, name string, e api.Errno) {
	t.Helper()
	if e != api.OK {
		t.Fatalf("%s: %d", name, e)
	}
}

// open is the log of a disk.
func open(t *testing.T, d *disk.Disk) *wal.Log {
	t.Helper()
	l, _, e := wal.Open(d)
	ok(t, "wal.Open", e)
	return l
}

// made is the tree of a log with a root.
func made(t *testing.T, l *wal.Log, root int) *Tree {
	t.Helper()
	x, e := New(l, root)
	ok(t, "New", e)
	return x
}

// fresh is a tree without keys, and its log.
func fresh(t *testing.T) (*Tree, *wal.Log) {
	t.Helper()
	l := open(t, disk.New())
	return made(t, l, -1), l
}

func valueOf(key string) string { return "of " + key }

// put puts keys with the values that valueOf has for them.
func put(t *testing.T, x *Tree, keys ...string) {
	t.Helper()
	for _, key := range keys {
		ok(t, "Put of "+key, x.Put(key, valueOf(key)))
	}
}

// gone takes keys away that are there.
func gone(t *testing.T, x *Tree, keys ...string) {
	t.Helper()
	for _, key := range keys {
		is, e := x.Delete(key)
		ok(t, "Delete of "+key, e)
		same(t, "Delete of "+key, is, true)
	}
}

// got holds the value that a tree has for a key against another one.
func got(t *testing.T, x *Tree, key, want string) {
	t.Helper()
	value, e := x.Get(key)
	ok(t, "Get of "+key, e)
	same(t, "Get of "+key, value, want)
}

// absent tells that a tree does not have a key, and that to take it away does nothing.
func absent(t *testing.T, x *Tree, key string) {
	t.Helper()
	name := fmt.Sprintf("%q", key)
	value, e := x.Get(key)
	same(t, "Get of "+name, e, api.ErrNone)
	same(t, "the value beside Get's error", value, "")
	root, waits := x.Root(), x.log.Waits()
	is, e := x.Delete(key)
	ok(t, "Delete of "+name, e)
	same(t, "Delete of "+name, is, false)
	same(t, "the root behind that", x.Root(), root)
	same(t, "what waits behind that", x.log.Waits(), waits)
}

// pairs is all that a tree tells from a key on, in words.
func pairs(x *Tree, from string) string {
	s := ""
	for key, value := range x.All(from) {
		s += key + "=" + value + ";"
	}
	return s
}

// valued is keys with their values, in the words of pairs.
func valued(keys ...string) string {
	s := ""
	for _, key := range keys {
		s += key + "=" + valueOf(key) + ";"
	}
	return s
}

// record appends a page to a log, one that no tree would lay, too: its place.
func record(t *testing.T, l *wal.Log, p api.Page) int {
	t.Helper()
	s, e := page.Encode(p)
	ok(t, "page.Encode", e)
	at, e := l.Append(s)
	ok(t, "Append", e)
	return at
}

// leaf appends a leaf, and node a page with kids.
func leaf(t *testing.T, l *wal.Log, keys ...string) int {
	t.Helper()
	p := api.Page{Leaf: true, Keys: keys}
	for _, key := range keys {
		p.Values = append(p.Values, valueOf(key))
	}
	return record(t, l, p)
}

func node(t *testing.T, l *wal.Log, keys []string, kids ...int) int {
	t.Helper()
	return record(t, l, api.Page{Keys: keys, Kids: kids})
}

// paged is the page at a place of a log.
func paged(t *testing.T, l *wal.Log, at int) api.Page {
	t.Helper()
	s, e := l.Read(at)
	ok(t, "wal's Read", e)
	p, e := page.Decode(s)
	ok(t, "page.Decode", e)
	return p
}

// shape is a tree in words: the keys of a leaf stand in square brackets, those of another page in round ones, between its kids.
func shape(t *testing.T, l *wal.Log, at int) string {
	t.Helper()
	if at == -1 {
		return "none"
	}
	p := paged(t, l, at)
	if p.Leaf {
		return "[" + strings.Join(p.Keys, " ") + "]"
	}
	s := "(" + shape(t, l, p.Kids[0])
	for i, key := range p.Keys {
		s += " " + key + " " + shape(t, l, p.Kids[i+1])
	}
	return s + ")"
}

// planted is the tree that such words tell, its pages laid by hand, and its log.
func planted(t *testing.T, words string) (*Tree, *wal.Log) {
	t.Helper()
	l := open(t, disk.New())
	if words == "none" {
		return made(t, l, -1), l
	}
	for _, mark := range letters("()[]") {
		words = strings.ReplaceAll(words, mark, " "+mark+" ")
	}
	root, _ := plantedAt(t, l, strings.Fields(words))
	return made(t, l, root), l
}

// plantedAt lays the page that words begin with: its place, and the words behind it.
func plantedAt(t *testing.T, l *wal.Log, words []string) (int, []string) {
	t.Helper()
	var keys []string
	if words[0] == "[" {
		for words = words[1:]; words[0] != "]"; words = words[1:] {
			keys = append(keys, words[0])
		}
		return leaf(t, l, keys...), words[1:]
	}
	kid, words := plantedAt(t, l, words[1:])
	kids := []int{kid}
	for words[0] != ")" {
		keys = append(keys, words[0])
		kid, words = plantedAt(t, l, words[1:])
		kids = append(kids, kid)
	}
	return node(t, l, keys, kids...), words[1:]
}

// letters is a key for each byte.
func letters(s string) []string { return strings.Split(s, "") }

// numbers is keys of three digits: n of them, from one on.
func numbers(from, n int) []string {
	var keys []string
	for i := range n {
		keys = append(keys, fmt.Sprintf("%03d", from+i))
	}
	return keys
}

// leafWords is a leaf with n numbers, from one on.
func leafWords(from, n int) string { return "[" + strings.Join(numbers(from, n), " ") + "]" }

// tens is a page over n leaves of four numbers each, the first of them from*10, from*10+1 ..
func tens(from, n int) string {
	var kids []string
	for i := range n {
		kids = append(kids, leafWords(10*(from+i), 4))
	}
	return over(from, kids...)
}

// over is a page over kids of which each has the numbers of the next ten.
func over(from int, kids ...string) string {
	s := "(" + kids[0]
	for i, kid := range kids[1:] {
		s += fmt.Sprintf(" %03d ", 10*(from+i+1)) + kid
	}
	return s + ")"
}
