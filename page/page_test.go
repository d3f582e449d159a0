package page

import (
	"encoding/binary"
	"fmt"
	"math"
	"math/rand"
	"slices"
	"sort"
	"strings"
	"testing"

	"cupel/api"
)

// same holds two comparable answers against each other.
func same[T comparable](t *testing.T, name string, got, want T) {
	t.Helper()
	if got != want {
		t.Errorf("%s: %#v, not %#v", name, got, want)
	}
}

// ok tells that a call answered no error.
func ok(t *testing.T, name string, e api.Errno) {
	t.Helper()
	same(t, name, e, api.OK)
}

// shown is all of a page, so that two pages are the same where these texts are.
func shown(p api.Page) string {
	return fmt.Sprintf("%v %q %q %d", p.Leaf, p.Keys, p.Values, p.Kids)
}

// count is a count's four bytes, by the library.
func count(n int) string {
	return string(binary.LittleEndian.AppendUint32(nil, uint32(n)))
}

// text is a text with its count.
func text(s string) string { return count(len(s)) + s }

// all is texts behind one another.
func all(list []string) string {
	b := ""
	for _, s := range list {
		b += text(s)
	}
	return b
}

// leafBytes and nodeBytes are the bytes of pages of any keys, values and kids, whether these may be or not.
func leafBytes(keys, values []string) string {
	return "\x01" + string([]byte{byte(len(keys))}) + all(keys) + all(values)
}

func nodeBytes(keys []string, kids []int) string {
	b := "\x00" + string([]byte{byte(len(keys))}) + all(keys)
	for _, kid := range kids {
		b += count(kid)
	}
	return b
}

// bytesOf is the bytes of a page as the chapter tells them.
func bytesOf(p api.Page) string {
	if p.Leaf {
		return leafBytes(p.Keys, p.Values)
	}
	return nodeBytes(p.Keys, p.Kids)
}

// rising is n keys that rise.
func rising(n int) []string {
	var keys []string
	for i := range n {
		keys = append(keys, string(rune('b'+2*i)))
	}
	return keys
}

// leafOf and nodeOf are pages with keys, and with as many values or kids as they must have.
func leafOf(keys ...string) api.Page {
	p := api.Page{Leaf: true, Keys: keys}
	for _, key := range keys {
		p.Values = append(p.Values, "of "+key)
	}
	return p
}

func nodeOf(keys ...string) api.Page {
	p := api.Page{Keys: keys, Kids: []int{0}}
	for i := range keys {
		p.Kids = append(p.Kids, 1000*i+7)
	}
	return p
}

// with is a leaf with one key that has a value, and between a page with one key between two kids.
func with(value string) api.Page {
	return api.Page{Leaf: true, Keys: []string{"k"}, Values: []string{value}}
}

func between(first, second int) api.Page {
	return api.Page{Keys: []string{"k"}, Kids: []int{first, second}}
}

var (
	longestKey   = strings.Repeat("k", api.MaxKey)
	longestValue = strings.Repeat("v", api.MaxValue)
)

type named struct {
	name string
	page api.Page
}

// good is pages that may be, the edges among them.
func good() []named {
	return []named{
		{"a leaf without keys", api.Page{Leaf: true}},
		{"a leaf with lists of nothing", api.Page{Leaf: true, Keys: []string{}, Values: []string{}, Kids: []int{}}},
		{"a leaf with one key", leafOf("b")},
		{"a leaf with three keys", leafOf("b", "d", "f")},
		{"a leaf with all keys", leafOf(rising(api.MaxKeys)...)},
		{"a leaf with keys of which one begins with another", leafOf("a", "aa", "aab", "ab")},
		{"a leaf with keys of all bytes", leafOf("\x00", "\x00\x00", "\x7f", "\x80", "\xff", "\xff\x00", "\xff\xff")},
		{"a leaf with the longest key", leafOf(longestKey)},
		{"a leaf with the longest keys", leafOf(longestKey, longestKey[1:]+"l")},
		{"a value of no bytes", with("")},
		{"the longest value", with(longestValue)},
		{"the longest value twice", api.Page{Leaf: true, Keys: []string{"a", "b"}, Values: []string{longestValue, longestValue}}},
		{"another page with one key", nodeOf("b")},
		{"another page with two keys", nodeOf("b", "d")},
		{"another page with all keys", nodeOf(rising(api.MaxKeys)...)},
		{"another page with the longest key", nodeOf(longestKey)},
		{"another page with a list of no values", api.Page{Keys: []string{"b"}, Values: []string{}, Kids: []int{5, 4}}},
		{"kids at 0", between(0, 0)},
		{"the last place", between(math.MaxInt32, 0)},
		{"the last place behind the key", between(0, math.MaxInt32)},
		{"the last place but one", between(math.MaxInt32-1, 1)},
	}
}

// badForm is pages whose bytes can be written down, and that may not be.
func badForm() []named {
	many := rising(api.MaxKeys + 1)
	return []named{
		{"another page without keys", api.Page{Kids: []int{0}}},
		{"a leaf with a key too many", leafOf(many...)},
		{"another page with a key too many", nodeOf(many...)},
		{"a leaf with 255 keys", leafOf(numbered(255)...)},
		{"another page with 255 keys", nodeOf(numbered(255)...)},
		{"a leaf with a key of no bytes", leafOf("")},
		{"a leaf with a key of no bytes behind another", leafOf("a", "")},
		{"another page with a key of no bytes", nodeOf("")},
		{"another page with a key of no bytes ahead", nodeOf("", "a")},
		{"a leaf whose keys fall", leafOf("d", "b")},
		{"a leaf whose last key falls", leafOf("b", "d", "f", "e")},
		{"a leaf whose keys fall below the first", leafOf("b", "d", "a")},
		{"another page whose keys fall", nodeOf("d", "b")},
		{"a leaf with a key twice", leafOf("b", "b")},
		{"a leaf with its last key twice", leafOf("a", "b", "b")},
		{"another page with a key twice", nodeOf("b", "b")},
		{"keys that rise by runes, not by bytes", leafOf("\xff", "\x80")},
	}
}

// badLists is pages that may not be, and whose bytes are those of none.
func badLists() []named {
	return []named{
		{"nothing", api.Page{}},
		{"another page with nothing but values", api.Page{Values: []string{"v"}}},
		{"a leaf with a kid", api.Page{Leaf: true, Keys: []string{"b"}, Values: []string{"v"}, Kids: []int{0}}},
		{"a leaf with kids as another page has", api.Page{Leaf: true, Keys: []string{"b"}, Values: []string{"v"}, Kids: []int{0, 1}}},
		{"a leaf with kids alone", api.Page{Leaf: true, Keys: []string{"b"}, Kids: []int{0, 1}}},
		{"a leaf with one kid and nothing else", api.Page{Leaf: true, Kids: []int{0}}},
		{"another page with a value", api.Page{Keys: []string{"b"}, Values: []string{"v"}, Kids: []int{0, 1}}},
		{"another page with a value of no bytes", api.Page{Keys: []string{"b"}, Values: []string{""}, Kids: []int{0, 1}}},
		{"another page with values alone", api.Page{Keys: []string{"b"}, Values: []string{"v"}}},
		{"a leaf without its value", api.Page{Leaf: true, Keys: []string{"b"}}},
		{"a leaf with a value too few", api.Page{Leaf: true, Keys: []string{"b", "d"}, Values: []string{"v"}}},
		{"a leaf with a value too many", api.Page{Leaf: true, Keys: []string{"b"}, Values: []string{"v", "w"}}},
		{"a leaf with a value and no key", api.Page{Leaf: true, Values: []string{"v"}}},
		{"another page without kids", api.Page{Keys: []string{"b"}}},
		{"another page with a kid too few", api.Page{Keys: []string{"b"}, Kids: []int{0}}},
		{"another page with a kid too many", api.Page{Keys: []string{"b"}, Kids: []int{0, 1, 2}}},
		{"a leaf with a key that is too long", leafOf(longestKey + "k")},
		{"a leaf with a second key that is too long", leafOf("a", longestKey+"k")},
		{"another page with a key that is too long", nodeOf(longestKey + "k")},
		{"a value that is too long", with(longestValue + "v")},
		{"a second value that is too long", api.Page{Leaf: true, Keys: []string{"a", "b"}, Values: []string{"", longestValue + "v"}}},
		{"a kid below 0", between(-1, 0)},
		{"a kid below 0 behind the key", between(0, -1)},
		{"the lowest kid", between(math.MinInt, 0)},
		{"a kid above the last place", between(math.MaxInt32+1, 0)},
		{"a kid above the last place behind the key", between(0, math.MaxInt32+1)},
		{"a kid of more bytes than a count has", between(1<<32, 0)},
		{"the greatest kid", between(0, math.MaxInt)},
	}
}

// numbered is n keys of three digits.
func numbered(n int) []string {
	var keys []string
	for i := range n {
		keys = append(keys, fmt.Sprintf("%03d", i))
	}
	return keys
}

// refused tells that bytes are answered an error, and nothing with it.
func refused(t *testing.T, name, s string, want api.Errno) {
	t.Helper()
	p, e := Decode(s)
	same(t, name+": Decode", e, want)
	same(t, name+": the page", shown(p), shown(api.Page{}))
}

// Promise 5.1: pages that may be, by Check, by their bytes, and by what these are read as.
func TestGoodPages(t *testing.T) {
	for _, c := range good() {
		ok(t, c.name+": Check", Check(c.page))
		s, e := Encode(c.page)
		ok(t, c.name+": Encode", e)
		same(t, c.name+": the bytes", s, bytesOf(c.page))
		p, e := Decode(s)
		ok(t, c.name+": Decode", e)
		same(t, c.name+": the page", shown(p), shown(c.page))
		same(t, c.name+": Same", Same(p, c.page), true)
	}
}

// Promise 5.1: a page's bytes, written out.
func TestKnownBytes(t *testing.T) {
	none, e := Encode(api.Page{Leaf: true})
	ok(t, "a leaf without keys", e)
	same(t, "a leaf without keys", none, "\x01\x00")
	leaf, e := Encode(api.Page{Leaf: true, Keys: []string{"a", "bc"}, Values: []string{"", "xyz"}})
	ok(t, "a leaf", e)
	same(t, "a leaf", leaf, "\x01\x02\x01\x00\x00\x00a\x02\x00\x00\x00bc\x00\x00\x00\x00\x03\x00\x00\x00xyz")
	node, e := Encode(api.Page{Keys: []string{"m"}, Kids: []int{258, math.MaxInt32}})
	ok(t, "another page", e)
	same(t, "another page", node, "\x00\x01\x01\x00\x00\x00m\x02\x01\x00\x00\xff\xff\xff\x7f")
}

// Promise 5.1: pages that may not be are answered ErrForm, and have no bytes.
func TestBadPages(t *testing.T) {
	for _, c := range append(badForm(), badLists()...) {
		same(t, c.name+": Check", Check(c.page), api.ErrForm)
		s, e := Encode(c.page)
		same(t, c.name+": Encode", e, api.ErrForm)
		same(t, c.name+": the bytes", s, "")
	}
}

// Promise 5.1: bytes that are read to their end and are of no page: ErrForm; with more behind them: ErrMore ahead of it.
func TestDecodeOfBadForm(t *testing.T) {
	for _, c := range badForm() {
		s := bytesOf(c.page)
		refused(t, c.name, s, api.ErrForm)
		refused(t, c.name+", and more", s+"\x00", api.ErrMore)
		refused(t, c.name+", cut", s[:len(s)-1], api.ErrCut)
	}
}

// Promise 5.1: bytes cut off at each of their places, and with one more.
func TestDecodeOfCutBytes(t *testing.T) {
	refused(t, "nothing", "", api.ErrCut)
	for _, c := range good() {
		s := bytesOf(c.page)
		for i := range len(s) {
			if _, e := Decode(s[:i]); e != api.ErrCut {
				t.Fatalf("%s: %d of %d bytes: %d, not ErrCut", c.name, i, len(s), e)
			}
		}
		for _, more := range []string{"\x00", "\x01", "\xff", s} {
			refused(t, c.name+", and more", s+more, api.ErrMore)
		}
	}
}

// Promise 5.1: a first byte that is neither yes nor no, whatever stands behind it.
func TestDecodeOfNeither(t *testing.T) {
	for first := 2; first < 256; first++ {
		head := string([]byte{byte(first)})
		for _, rest := range []string{"", "\x00", "\x00\x00", "\x01" + text("a") + text("v"), "\xff", "\x01" + text(longestKey+"k")} {
			refused(t, "neither", head+rest, api.ErrForm)
		}
	}
}

// Promise 5.1: the number of keys, for each that a byte can say, with too few keys and with as many; nothing is ErrForm ahead of ErrCut.
func TestDecodeOfHowMany(t *testing.T) {
	for n := range 256 {
		keys := numbered(n)
		want := api.OK
		if n > api.MaxKeys {
			want = api.ErrForm
		}
		leaf, node := leafOf(keys...), nodeOf(keys...)
		_, e := Decode(bytesOf(leaf))
		same(t, "a leaf", e, want)
		if n == 0 {
			want = api.ErrForm
		}
		_, e = Decode(bytesOf(node))
		same(t, "another page", e, want)
		head := string([]byte{byte(n)})
		refused(t, "another page's head alone", "\x00"+head, api.ErrCut)
		if n > 0 {
			refused(t, "a leaf's head alone", "\x01"+head, api.ErrCut)
			refused(t, "a leaf without its last value", leafBytes(keys, leaf.Values[:n-1]), api.ErrCut)
			refused(t, "another page without its last kid", nodeBytes(keys, node.Kids[:n]), api.ErrCut)
		}
	}
}

// Promise 5.1: keys, values and kids that are too great: ErrMany, as the reader says it, ahead of what follows.
func TestDecodeOfTooGreat(t *testing.T) {
	long, longValue := longestKey+"k", longestValue+"v"
	for _, c := range []struct{ name, s string }{
		{"a leaf's key", leafBytes([]string{long}, []string{"v"})},
		{"a leaf's second key", leafBytes([]string{"a", long}, []string{"v", "w"})},
		{"a key ahead of no value", leafBytes([]string{long}, nil)},
		{"a key whose bytes are cut", "\x01\x01" + count(api.MaxKey+1)},
		{"a key behind those that fall", leafBytes([]string{"b", "a", long}, []string{"", "", ""})},
		{"a key behind one of no bytes", leafBytes([]string{"", long}, nil)},
		{"a key of too many", leafBytes(append(numbered(9), long), nil)},
		{"another page's key", nodeBytes([]string{long}, []int{1, 2})},
		{"the greatest count", "\x00\x01\xff\xff\xff\xff"},
		{"a value", leafBytes([]string{"a"}, []string{longValue})},
		{"a second value", leafBytes([]string{"a", "b"}, []string{"", longValue})},
		{"a value whose bytes are cut", "\x01\x01" + text("a") + count(api.MaxValue+1)},
		{"a value behind keys that fall", leafBytes([]string{"b", "a"}, []string{longValue, ""})},
		{"a kid", nodeBytes([]string{"a"}, []int{math.MaxInt32 + 1, 0})},
		{"a second kid", nodeBytes([]string{"a"}, []int{0, math.MaxInt32 + 1})},
		{"the greatest kid", nodeBytes([]string{"a"}, []int{math.MaxUint32, 0})},
		{"a kid without keys", nodeBytes(nil, []int{math.MaxInt32 + 1})},
		{"a kid behind keys that fall", nodeBytes([]string{"b", "a"}, []int{math.MaxInt32 + 1, 0, 0})},
		{"a kid, and more", nodeBytes([]string{"a"}, []int{math.MaxInt32 + 1, 0, 0})},
	} {
		refused(t, c.name, c.s, api.ErrMany)
	}
	refused(t, "cut ahead of a value that is too long", "\x01\x02"+text("a"), api.ErrCut)
	refused(t, "a key of MaxValue bytes", leafBytes([]string{longestValue}, []string{""}), api.ErrMany)
}

// Promise 5.1: any bytes are those of a page, or refused; what is read has these bytes.
func TestDecodeOfAnyBytes(t *testing.T) {
	r := rand.New(rand.NewSource(5))
	pages := good()
	read := 0
	for range 60000 {
		b := []byte(bytesOf(pages[r.Intn(len(pages))].page))
		b = b[:min(len(b), 200)]
		for range r.Intn(3) {
			b[r.Intn(len(b))] = byte(r.Intn(5))
		}
		p, e := Decode(string(b))
		if e != api.OK {
			same(t, "the page beside an error", shown(p), shown(api.Page{}))
			continue
		}
		read++
		ok(t, "Check of what was read", Check(p))
		s, e := Encode(p)
		ok(t, "Encode of what was read", e)
		same(t, "its bytes", s, string(b))
	}
	if read < 1000 {
		t.Errorf("only %d were read", read)
	}
}

// Promise 5.1: where a key stands, or would stand: ahead of all, between two, behind all.
func TestFind(t *testing.T) {
	type found struct {
		place int
		is    bool
	}
	for _, p := range []api.Page{leafOf("b", "d", "dd"), nodeOf("b", "d", "dd")} {
		for key, want := range map[string]found{
			"": {0, false}, "a": {0, false}, "azzz": {0, false}, "b": {0, true},
			"b\x00": {1, false}, "c": {1, false}, "d": {1, true},
			"d\x00": {2, false}, "dd": {2, true},
			"dd\x00": {3, false}, "e": {3, false}, "\xff": {3, false},
		} {
			place, is := Find(p, key)
			same(t, fmt.Sprintf("Find of %q", key), found{place, is}, want)
		}
	}
	for n := range api.MaxKeys + 1 {
		for i, key := range rising(n) {
			place, is := Find(leafOf(rising(n)...), key)
			same(t, fmt.Sprintf("Find of %q", key), found{place, is}, found{i, true})
			place, is = Find(leafOf(rising(n)...), string([]byte{key[0] - 1}))
			same(t, "Find ahead of "+key, found{place, is}, found{i, false})
		}
		place, is := Find(leafOf(rising(n)...), "z")
		same(t, "Find behind all", found{place, is}, found{n, false})
	}
}

// Promise 5.1, and the chapter's example: which kid has a key.
func TestKid(t *testing.T) {
	p := api.Page{Keys: []string{"b", "d"}, Kids: []int{10, 20, 30}}
	for key, want := range map[string]int{
		"": 0, "a": 0, "a\xff": 0, "b": 1, "b\x00": 1, "c": 1, "c\xff": 1, "d": 2, "d\x00": 2, "e": 2, "\xff": 2,
	} {
		same(t, fmt.Sprintf("Kid of %q", key), Kid(p, key), want)
	}
	for n := 1; n <= api.MaxKeys; n++ {
		keys := rising(n)
		p := nodeOf(keys...)
		same(t, "Kid ahead of all", Kid(p, "a"), 0)
		for i, key := range keys {
			same(t, fmt.Sprintf("Kid of %q", key), Kid(p, key), i+1)
			same(t, "Kid ahead of "+key, Kid(p, string([]byte{key[0] - 1})), i)
			same(t, "Kid behind "+key, Kid(p, key+"\x00"), i+1)
		}
	}
}

// Promise 5.1: chance keys against the library's search.
func TestFindAndKidByChance(t *testing.T) {
	r := rand.New(rand.NewSource(6))
	word := func() string {
		b := make([]byte, 1+r.Intn(3))
		for i := range b {
			b[i] = "ab\x00\xff"[r.Intn(4)]
		}
		return string(b)
	}
	for range 5000 {
		var keys []string
		for range 1 + r.Intn(api.MaxKeys) {
			keys = append(keys, word())
		}
		slices.Sort(keys)
		p := nodeOf(slices.Compact(keys)...)
		ok(t, "Check", Check(p))
		key := word()
		at, is := slices.BinarySearch(p.Keys, key)
		place, got := Find(p, key)
		same(t, "Find", place, at)
		same(t, "Find", got, is)
		same(t, "Kid", Kid(p, key), sort.Search(len(p.Keys), func(i int) bool { return p.Keys[i] > key }))
	}
}

// Promise 5.1: Same by each part of a page. Rule R3: a list of nothing, and none.
func TestSame(t *testing.T) {
	pages := append(append(good(), badForm()...), badLists()...)
	for _, a := range pages {
		for _, b := range pages {
			same(t, a.name+", "+b.name, Same(a.page, Clone(b.page)), shown(a.page) == shown(b.page))
		}
	}
	base := api.Page{Leaf: true, Keys: []string{"a", "b"}, Values: []string{"v", "w"}, Kids: []int{1, 2}}
	for i, change := range []func(p *api.Page){
		func(p *api.Page) { p.Leaf = false },
		func(p *api.Page) { p.Keys[1] = "c" },
		func(p *api.Page) { p.Keys = p.Keys[:1] },
		func(p *api.Page) { p.Keys = append(p.Keys, "") },
		func(p *api.Page) { p.Keys = nil },
		func(p *api.Page) { p.Values[0] = "" },
		func(p *api.Page) { p.Values = p.Values[1:] },
		func(p *api.Page) { p.Values = nil },
		func(p *api.Page) { p.Kids[0] = 2 },
		func(p *api.Page) { p.Kids = append(p.Kids, 0) },
		func(p *api.Page) { p.Kids = nil },
	} {
		other := Clone(base)
		same(t, "a copy", Same(base, other), true)
		change(&other)
		same(t, fmt.Sprint("change ", i), Same(base, other), false)
		same(t, fmt.Sprint("change ", i, ", the other way"), Same(other, base), false)
	}
	empty := api.Page{Keys: []string{}, Values: []string{}, Kids: []int{}}
	same(t, "empty lists, and none", Same(empty, api.Page{}), true)
	same(t, "none, and empty lists", Same(api.Page{}, empty), true)
	empty.Leaf = true
	same(t, "a leaf of empty lists, and no leaf", Same(empty, api.Page{}), false)
}

// spoil changes all that a page's lists hold, up to their capacity.
func spoil(p api.Page) {
	for _, list := range [][]string{p.Keys[:cap(p.Keys)], p.Values[:cap(p.Values)]} {
		for i := range list {
			list[i] = "spoilt"
		}
	}
	kids := p.Kids[:cap(p.Kids)]
	for i := range kids {
		kids[i] = -77
	}
}

// Promise 5.1 and rule R2: a copy is the page, and what is changed in one changes nothing of the other.
func TestClone(t *testing.T) {
	for _, c := range append(append(good(), badForm()...), badLists()...) {
		p := c.page
		p.Keys = append(slices.Clone(p.Keys), "behind")[:len(p.Keys)]
		p.Values = append(slices.Clone(p.Values), "behind")[:len(p.Values)]
		p.Kids = append(slices.Clone(p.Kids), 99)[:len(p.Kids)]
		want := shown(p)
		first, second := Clone(p), Clone(p)
		same(t, c.name, shown(first), want)
		spoil(first)
		same(t, c.name+": the page, its copy spoilt", shown(p), want)
		same(t, c.name+": what is behind its keys", p.Keys[:len(p.Keys)+1][len(p.Keys)], "behind")
		same(t, c.name+": what is behind its kids", p.Kids[:len(p.Kids)+1][len(p.Kids)], 99)
		spoil(p)
		same(t, c.name+": a copy, the page spoilt", shown(second), want)
	}
}

// Rules R2 and R4: what is handed in is not changed; what was read is the caller's own; the same calls answer the same.
func TestWhatIsHandedInStays(t *testing.T) {
	for _, c := range append(append(good(), badForm()...), badLists()...) {
		want := shown(c.page)
		for range 2 {
			Check(c.page)
			Encode(c.page)
			Find(c.page, "c")
			Kid(c.page, "c")
			Same(c.page, c.page)
			same(t, c.name, shown(c.page), want)
		}
	}
	for _, c := range good() {
		s := bytesOf(c.page)
		first, _ := Decode(s)
		spoil(first)
		second, e := Decode(s)
		ok(t, c.name+": Decode again", e)
		same(t, c.name+": Decode again", shown(second), shown(c.page))
		same(t, c.name+": the bytes", s, bytesOf(c.page))
	}
}

// Rule R1: pages that may not be, too, are gone through to an end.
func TestAnyPageIsAnswered(t *testing.T) {
	for _, c := range append(badForm(), badLists()...) {
		for _, key := range []string{"", "b", longestKey + "kk", "\xff"} {
			place, _ := Find(c.page, key)
			kid := Kid(c.page, key)
			if place < 0 || place > len(c.page.Keys) || kid < 0 || kid > len(c.page.Keys) {
				t.Errorf("%s: Find %d, Kid %d", c.name, place, kid)
			}
		}
		same(t, c.name+": Same", Same(c.page, Clone(c.page)), true)
	}
}
