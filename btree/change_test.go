package btree

import (
	"fmt"
	"math/rand"
	"slices"
	"strings"
	"testing"

	"cupel/api"
	"cupel/wal"
)

// step is a tree, a key that is put or taken away, and the tree behind it.
type step struct{ name, before, key, after string }

// behind tells whether a tree is the one of a step, and the one ahead of it what it was.
func (c step) behind(t *testing.T, l *wal.Log, x *Tree, root int) {
	t.Helper()
	name := c.name + ", " + c.key
	same(t, name, shape(t, l, x.Root()), c.after)
	same(t, name+": the earlier root", shape(t, l, root), c.before)
}

func puts(t *testing.T, steps []step) {
	t.Helper()
	for _, c := range steps {
		x, l := planted(t, c.before)
		root, keys := x.Root(), keysOf(x)
		put(t, x, c.key)
		c.behind(t, l, x, root)
		keys = append(keys, c.key)
		slices.Sort(keys)
		same(t, c.name+": what is there", pairs(x, ""), valued(slices.Compact(keys)...))
		sound(t, l, x.Root())
	}
}

func takes(t *testing.T, steps []step) {
	t.Helper()
	for _, c := range steps {
		x, l := planted(t, c.before)
		root, keys := x.Root(), keysOf(x)
		gone(t, x, c.key)
		c.behind(t, l, x, root)
		keys = slices.DeleteFunc(keys, func(key string) bool { return key == c.key })
		same(t, c.name+": what is there", pairs(x, ""), valued(keys...))
		absent(t, x, c.key)
		sound(t, l, x.Root())
	}
}

// keysOf is the keys of a tree.
func keysOf(x *Tree) []string {
	var keys []string
	for key := range x.All("") {
		keys = append(keys, key)
	}
	return keys
}

// sound tells that a tree is one by the words of layers 5 and 6: each page that is not the root has MinKeys keys at least, all leaves lie equally deep, and kids have the keys that the keys above leave them. How deep it is.
func sound(t *testing.T, l *wal.Log, root int) int {
	t.Helper()
	if root == -1 {
		return 0
	}
	if len(paged(t, l, root).Keys) == 0 {
		t.Error("a root without keys")
	}
	return soundBelow(t, l, root, 1, "", "")
}

func soundBelow(t *testing.T, l *wal.Log, at, least int, low, high string) int {
	t.Helper()
	p := paged(t, l, at)
	if len(p.Keys) < least {
		t.Errorf("a page with %d keys", len(p.Keys))
	}
	for _, key := range p.Keys {
		if key < low || high != "" && key >= high {
			t.Errorf("%q stands between %q and %q", key, low, high)
		}
	}
	deep := 0
	bounds := append(append([]string{low}, p.Keys...), high)
	for i, kid := range p.Kids {
		other := soundBelow(t, l, kid, api.MinKeys, bounds[i], bounds[i+1])
		if i > 0 && other != deep {
			t.Errorf("a kid is %d deep, another %d", deep, other)
		}
		deep = other
	}
	return deep + 1
}

// The chapter's example: nine keys are two leaves below a root with one key, in whatever order they come.
func TestNineKeys(t *testing.T) {
	for _, order := range []string{"abcdefghi", "ihgfedcba", "eaibhcgdf", "abcdfghie"} {
		x, l := fresh(t)
		put(t, x, letters(order)...)
		same(t, order, shape(t, l, x.Root()), "([a b c d] e [e f g h i])")
		for _, key := range letters(order) {
			got(t, x, key, valueOf(key))
		}
		root := paged(t, l, x.Root())
		list, _ := x.Pages()
		same(t, "the pages", fmt.Sprint(list), fmt.Sprint([]int{root.Kids[0], root.Kids[1], x.Root()}))
	}
}

// Promise 6.1, Words: the leaf gets the key; one with more than MaxKeys is cut, and the key in the middle copied up.
func TestPutIntoLeaves(t *testing.T) {
	puts(t, []step{
		{"no tree", "none", "b", "[b]"},
		{"a root that is a leaf", "[b d]", "c", "[b c d]"},
		{"put again", "[b c d]", "c", "[b c d]"},
		{"the eighth key", "[a b c d e f h]", "g", "[a b c d e f g h]"},
		{"a full root again", "[a b c d e f g h]", "h", "[a b c d e f g h]"},
		{"the ninth, ahead of all", "[b c d e f g h i]", "a", "([a b c d] e [e f g h i])"},
		{"the ninth, in the middle", "[a b c d f g h i]", "e", "([a b c d] e [e f g h i])"},
		{"the ninth, behind all", "[a b c d e f g h]", "i", "([a b c d] e [e f g h i])"},
		{"the first leaf", "([b c d e] h [h i j k])", "a", "([a b c d e] h [h i j k])"},
		{"below the key between", "([b c d e] h [h i j k])", "g", "([b c d e g] h [h i j k])"},
		{"the key between", "([b c d e] h [i j k l])", "h", "([b c d e] h [h i j k l])"},
		{"behind all", "([b c d e] h [h i j k])", "z", "([b c d e] h [h i j k z])"},
		{"a full first leaf", "([b c d e f g h i] j [j k l m])", "a", "([a b c d] e [e f g h i] j [j k l m])"},
		{"a full leaf in the middle", "([b c d e] h [h i j k l m n o] r [r s t u])", "hh", "([b c d e] h [h hh i j] k [k l m n o] r [r s t u])"},
		{"its last", "([b c d e] h [h i j k l m n o] r [r s t u])", "p", "([b c d e] h [h i j k] l [l m n o p] r [r s t u])"},
		{"a full last leaf", "([b c d e] h [h i j k l m n o])", "z", "([b c d e] h [h i j k] l [l m n o z])"},
		{"a full leaf again", "([b c d e f g h i] j [j k l m])", "d", "([b c d e f g h i] j [j k l m])"},
	})
}

// Promise 6.1, Words: another page with more than MaxKeys keys is cut, and the key in the middle goes up.
func TestPutCutsPagesAbove(t *testing.T) {
	full, halves := leafWords(180, 8), leafWords(180, 4)+" 184 "+leafWords(184, 5)
	nine := func(kid string) string { // nine kids, of which the last one is given
		return strings.TrimSuffix(tens(10, 8), ")") + " 180 " + kid + ")"
	}
	puts(t, []step{
		{"a root with eight keys", tens(10, 9), "105", strings.Replace(tens(10, 9), "103]", "103 105]", 1)},
		{"the ninth key of a root", nine(full), "188", "(" + tens(10, 5) + " 150 " +
			over(15, leafWords(150, 4), leafWords(160, 4), leafWords(170, 4), halves) + ")"},
		{"below a root with a key", "(" + tens(0, 5) + " 050 " + nine(full) + ")", "188", "(" + tens(0, 5) + " 050 " + tens(10, 5) + " 150 " +
			over(15, leafWords(150, 4), leafWords(160, 4), leafWords(170, 4), halves) + ")"},
		{"ahead of another", "(" + nine(full) + " 190 " + tens(19, 5) + ")", "188", "(" + tens(10, 5) + " 150 " +
			over(15, leafWords(150, 4), leafWords(160, 4), leafWords(170, 4), halves) + " 190 " + tens(19, 5) + ")"},
	})
}

// Promise 6.1, Words: the first half has half of the keys, rounded down, by 41 rising keys, which make a third level.
func TestRisingKeys(t *testing.T) {
	x, l := fresh(t)
	put(t, x, numbers(0, 40)...)
	want := "(" + leafWords(0, 4)
	for i := 4; i < 32; i += 4 {
		want += fmt.Sprintf(" %03d ", i) + leafWords(i, 4)
	}
	same(t, "40 keys", shape(t, l, x.Root()), want+" 032 "+leafWords(32, 8)+")")
	put(t, x, "040")
	part := func(from int) string {
		s := leafWords(from, 4)
		for i := from + 4; i < from+16; i += 4 {
			s += fmt.Sprintf(" %03d ", i) + leafWords(i, 4)
		}
		return s
	}
	same(t, "41 keys", shape(t, l, x.Root()), "(("+part(0)+" 016 "+leafWords(16, 4)+") 020 ("+part(20)+" 036 "+leafWords(36, 5)+"))")
}

// Promise 6.1, Words: leaves with too few keys are joined with the one ahead, the first with the one behind, and cut anew if they have too many.
func TestTakeFromLeaves(t *testing.T) {
	takes(t, []step{
		{"the last key", "[a]", "a", "none"},
		{"a root may have few", "[a b]", "a", "[b]"},
		{"no page has too few", "([a b c d e] f [f g h i])", "c", "([a b d e] f [f g h i])"},
		{"a key that stands above, too", "([a b c d] e [e f g h i])", "e", "([a b c d] e [f g h i])"},
		{"the first of two", "([a b c d] e [e f g h])", "a", "[b c d e f g h]"},
		{"the second of two", "([a b c d] e [e f g h])", "e", "[a b c d f g h]"},
		{"eight together", "([a b c d] e [e f g h i])", "d", "[a b c e f g h i]"},
		{"eight together, the other way", "([a b c d e] f [f g h i])", "i", "[a b c d e f g h]"},
		{"nine together", "([a b c d] e [e f g h i j])", "b", "([a c d e] f [f g h i j])"},
		{"nine together, the other way", "([a b c d e f] g [g h i j])", "h", "([a b c d] e [e f g i j])"},
		{"ten together", "([a b c d] e [e f g h i j k])", "a", "([b c d e f] g [g h i j k])"},
		{"eleven together", "([a b c d e f g h] i [i j k l])", "k", "([a b c d e] f [f g h i j l])"},
		{"eleven together, the other way", "([a b c d] e [e f g h i j k l])", "d", "([a b c e f] g [g h i j k l])"},
		{"the first of three", "([a b c d] e [e f g h] i [i j k l])", "a", "([b c d e f g h] i [i j k l])"},
		{"one in the middle", "([a b c d] e [e f g h] i [i j k l])", "f", "([a b c d e g h] i [i j k l])"},
		{"the last of three", "([a b c d] e [e f g h] i [i j k l])", "j", "([a b c d] e [e f g h i k l])"},
		{"the middle by the one ahead, though the one behind has more", "([a b c d] e [e f g h] i [i j k l m n o p])", "f", "([a b c d e g h] i [i j k l m n o p])"},
		{"the middle, and cut anew", "([a b c d e f] g [g h i j] k [k l m n])", "j", "([a b c d] e [e f g h i] k [k l m n])"},
		{"the last, and cut anew", "([a b c d] g [g h i j k l m n] o [o p q r])", "o", "([a b c d] g [g h i j k] l [l m n p q r])"},
		{"keys above that are not there", "([b c d e] g [h i j k l m])", "c", "([b d e h] i [i j k l m])"},
	})
}

// Promise 6.1, Words: pages above leaves with too few keys: the key between them comes down; they are cut anew if they have too many; a root without keys is its one kid.
func TestTakeJoinsPagesAbove(t *testing.T) {
	seven := func(a, b int) string { // two leaves of tens, the first key of the second one gone
		return "[" + strings.Join(append(numbers(10*a, 4), numbers(10*b+1, 3)...), " ") + "]"
	}
	row := func(from, n int) string { // the inside of a page of tens
		s := tens(from, n)
		return s[1 : len(s)-1]
	}
	takes(t, []step{
		{"no page above has too few", tens(10, 6), "110", "(" + seven(10, 11) + " 120 " + row(12, 4) + ")"},
		{"the first of two", "(" + tens(10, 5) + " 150 " + tens(15, 5) + ")", "110",
			"(" + seven(10, 11) + " 120 " + row(12, 3) + " 150 " + row(15, 5) + ")"},
		{"the second of two", "(" + tens(10, 5) + " 150 " + tens(15, 5) + ")", "190",
			"(" + row(10, 5) + " 150 " + row(15, 3) + " 180 " + seven(18, 19) + ")"},
		{"nine keys together", "(" + tens(10, 5) + " 150 " + tens(15, 6) + ")", "110",
			"((" + seven(10, 11) + " 120 " + row(12, 3) + " 150 " + row(15, 1) + ") 160 " + tens(16, 5) + ")"},
		{"twelve keys together", "(" + tens(10, 9) + " 190 " + tens(19, 5) + ")", "230",
			"(" + tens(10, 7) + " 170 (" + row(17, 2) + " 190 " + row(19, 3) + " 220 " + seven(22, 23) + "))"},
		{"twelve, the other way", "(" + tens(10, 5) + " 150 " + tens(15, 9) + ")", "110",
			"((" + seven(10, 11) + " 120 " + row(12, 3) + " 150 " + row(15, 3) + ") 180 " + tens(18, 6) + ")"},
		{"one in the middle", "(" + tens(10, 5) + " 150 " + tens(15, 5) + " 200 " + tens(20, 9) + ")", "170",
			"((" + row(10, 5) + " 150 " + row(15, 1) + " 160 " + seven(16, 17) + " 180 " + row(18, 2) + ") 200 " + tens(20, 9) + ")"},
		{"the last of three", "(" + tens(10, 5) + " 150 " + tens(15, 5) + " 200 " + tens(20, 5) + ")", "240",
			"(" + tens(10, 5) + " 150 (" + row(15, 5) + " 200 " + row(20, 3) + " 230 " + seven(23, 24) + "))"},
	})
}

// Promise 6.1: a root that loses its last key, and what is put behind that.
func TestRootThatLosesItsLastKey(t *testing.T) {
	x, l := fresh(t)
	for range 3 {
		put(t, x, letters("abcdefghi")...)
		same(t, "nine keys", shape(t, l, x.Root()), "([a b c d] e [e f g h i])")
		full := x.Root()
		gone(t, x, letters("abcdefgh")...)
		same(t, "one key", shape(t, l, x.Root()), "[i]")
		waits := l.Waits()
		gone(t, x, "i")
		same(t, "Root", x.Root(), -1)
		same(t, "nothing is appended for no root", l.Waits(), waits)
		absent(t, x, "i")
		list, read := x.Pages()
		same(t, "Pages", read, true)
		same(t, "how many pages", len(list), 0)
		same(t, "the earlier root", pairs(made(t, l, full), ""), valued(letters("abcdefghi")...))
	}
}

// plain is a tree in memory, after the chapter's words: a leaf has no kids.
type plain struct {
	keys []string
	kids []*plain
}

func (n *plain) words() string {
	if n.kids == nil {
		return "[" + strings.Join(n.keys, " ") + "]"
	}
	s := "("
	for i, kid := range n.kids {
		if i > 0 {
			s += " " + n.keys[i-1] + " "
		}
		s += kid.words()
	}
	return s + ")"
}

// kid is the kid that has a key.
func (n *plain) kid(key string) int {
	i := 0
	for i < len(n.keys) && n.keys[i] <= key {
		i++
	}
	return i
}

// cut is the page's halves, and the key above them.
func (n *plain) cut() (a *plain, up string, b *plain) {
	h := len(n.keys) / 2
	a, up = &plain{keys: slices.Clone(n.keys[:h])}, n.keys[h]
	if n.kids == nil {
		return a, up, &plain{keys: slices.Clone(n.keys[h:])}
	}
	a.kids = slices.Clone(n.kids[:h+1])
	return a, up, &plain{keys: slices.Clone(n.keys[h+1:]), kids: slices.Clone(n.kids[h+1:])}
}

// mend cuts kid i, if it has too many keys.
func (n *plain) mend(i int) {
	if len(n.kids[i].keys) > api.MaxKeys {
		a, up, b := n.kids[i].cut()
		n.keys = slices.Insert(n.keys, i, up)
		n.kids = slices.Replace(n.kids, i, i+1, a, b)
	}
}

func (n *plain) put(key string) {
	if n.kids != nil {
		i := n.kid(key)
		n.kids[i].put(key)
		n.mend(i)
	} else if i, is := slices.BinarySearch(n.keys, key); !is {
		n.keys = slices.Insert(n.keys, i, key)
	}
}

func (n *plain) take(key string) {
	if n.kids == nil {
		n.keys = slices.DeleteFunc(n.keys, func(k string) bool { return k == key })
		return
	}
	i := n.kid(key)
	n.kids[i].take(key)
	if len(n.kids[i].keys) >= api.MinKeys {
		return
	}
	i = max(i, 1)
	a, b := n.kids[i-1], n.kids[i]
	if a.kids != nil {
		a.keys = append(a.keys, n.keys[i-1])
	}
	a.keys = append(a.keys, b.keys...)
	a.kids = append(a.kids, b.kids...)
	n.keys = slices.Delete(n.keys, i-1, i)
	n.kids = slices.Delete(n.kids, i, i+1)
	n.mend(i - 1)
}

// settled is the root that a page makes.
func (n *plain) settled() *plain {
	if len(n.keys) > api.MaxKeys {
		a, up, b := n.cut()
		return &plain{keys: []string{up}, kids: []*plain{a, b}}
	}
	if len(n.keys) == 0 && n.kids != nil {
		return n.kids[0]
	}
	return n
}

// Promises 6.1 and 6.2: chance calls against a map and against the chapter's words, with many keys and with few, while the tree grows and while it dwindles.
func TestChanceCalls(t *testing.T) {
	for seed, most := range []int{3, 12, 60, 400, 400, 400, 900} {
		r := rand.New(rand.NewSource(int64(seed)))
		x, l := fresh(t)
		model, values := &plain{}, map[string]string{}
		deepest := 0
		for i := range 3000 {
			key := fmt.Sprintf("%03d", r.Intn(most))
			_, there := values[key]
			if r.Intn(10) < 3+4*(1-i/700%2) { // more is put than taken away, and then less, by turns
				values[key] = fmt.Sprint(i)
				model.put(key)
				ok(t, "Put", x.Put(key, values[key]))
			} else {
				delete(values, key)
				model.take(key)
				is, e := x.Delete(key)
				ok(t, "Delete", e)
				same(t, "Delete", is, there)
			}
			model = model.settled()
			if want := model.words(); want != "[]" {
				same(t, "the tree", shape(t, l, x.Root()), want)
			} else {
				same(t, "Root", x.Root(), -1)
			}
			value, e := x.Get(key)
			same(t, "Get", value, values[key])
			same(t, "Get", e == api.OK, values[key] != "")
			if i%50 == 0 {
				deepest = max(deepest, sound(t, l, x.Root()))
				holds(t, x, values)
			}
			if t.Failed() {
				t.Fatalf("seed %d, call %d", seed, i)
			}
		}
		if most >= 400 && deepest < 3 {
			t.Errorf("seed %d: the tree was only %d deep", seed, deepest)
		}
	}
}

// holds tells that a tree has just these keys and values.
func holds(t *testing.T, x *Tree, values map[string]string) {
	t.Helper()
	told := map[string]string{}
	ahead := ""
	for key, value := range x.All("") {
		if key <= ahead {
			t.Errorf("%q behind %q", key, ahead)
		}
		told[key], ahead = value, key
	}
	same(t, "how many keys", len(told), len(values))
	for key, value := range values {
		same(t, "the value that All tells", told[key], value)
		got(t, x, key, value)
	}
}

// Promise 6.2: a thousand keys in several orders, put and taken away to the last one.
func TestAllKeysComeAndGo(t *testing.T) {
	keys := numbers(0, 1000)
	orders := map[string]func(i int) int{
		"rising":  func(i int) int { return i },
		"falling": func(i int) int { return 999 - i },
		"mixed":   func(i int) int { return i * 387 % 1000 },
	}
	for first, in := range orders {
		for second, out := range orders {
			x, l := fresh(t)
			for i := range keys {
				put(t, x, keys[in(i)])
			}
			same(t, first+": All", pairs(x, ""), valued(keys...))
			if deep := sound(t, l, x.Root()); deep < 4 {
				t.Errorf("%s: only %d deep", first, deep)
			}
			for i := range keys {
				gone(t, x, keys[out(i)])
				if i%100 == 0 {
					sound(t, l, x.Root())
				}
			}
			same(t, first+", "+second+": Root", x.Root(), -1)
		}
	}
}
