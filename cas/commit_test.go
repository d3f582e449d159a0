package cas

import (
	"fmt"
	"strings"
	"testing"

	"cupel/api"
)

// Words: the keys of the store, and what stands behind them, byte by byte.
func TestBytesOfCommits(t *testing.T) {
	x := fresh(t)
	first := x.add(t, "a", "")
	source, id := tagged('B', "a"), tagged('C', tagged('B', "a"), "")
	same(t, "the first one", first, api.Commit{ID: id, Source: source})
	second := x.add(t, "bc", first.ID)
	other := tagged('C', tagged('B', "bc"), id)
	same(t, "the second one", second, api.Commit{ID: other, Source: tagged('B', "bc"), Parent: id, Order: 1})
	for key, want := range map[string]string{
		"b" + source:                             "a",
		"b" + tagged('B', "bc"):                  "bc",
		"c" + id:                                 "\x20\x00\x00\x00" + source + "\x00\x00\x00\x00" + "\x00\x00\x00\x00\x00\x00\x00\x00",
		"c" + other:                              "\x20\x00\x00\x00" + tagged('B', "bc") + "\x20\x00\x00\x00" + id + "\x01\x00\x00\x00\x00\x00\x00\x00",
		"o" + strings.Repeat("\x00", 8):          id,
		"o" + strings.Repeat("\x00", 7) + "\x01": other,
	} {
		got, e := x.raw.Get(key)
		same(t, "Get", e, api.OK)
		same(t, fmt.Sprintf("behind %q", key), got, want)
	}
	n := 0
	for range x.raw.All("") {
		n++
	}
	same(t, "pairs", n, 6)
}

// Promise 8.2: no commit, one, and several with branches; behind an opening, too.
func TestAdd(t *testing.T) {
	x := fresh(t)
	m := model{}
	sure(t, "none", x, m)
	for i, add := range []struct {
		source string
		parent int // the place of its parent; below 0: none
	}{
		{"a", -1}, {"b", 0}, {"c", 1}, {"d", 1}, {"e", 0}, {"f", 4}, {"g", -1}, {"h", 6}, {"", 7}, {"a", 0}, {"a", 9}, {longestText, 10}, {"\x00\xff", -1},
	} {
		parent := ""
		if add.parent >= 0 {
			parent = m.commits[add.parent].ID
		}
		m = m.behind(add.source, parent)
		changes := x.disk.Changes()
		got := x.add(t, add.source, parent)
		same(t, "the commit", got, m.commits[i])
		same(t, "its place", got.Order, uint64(i))
		same(t, "changes of the disk", x.disk.Changes()-changes, 1)
		sure(t, fmt.Sprint(i+1, " commits"), x, m)
		if i%3 == 0 {
			x = opened(t, x.disk)
		}
	}
}

// Promise 8.2: of one text and one parent there is one commit, however often it comes; of unlike parents there are several.
func TestAddTwice(t *testing.T) {
	x := fresh(t)
	first := x.add(t, "a", "")
	m := model{}.behind("a", "")
	second := x.add(t, "a", first.ID)
	third := x.add(t, "a", second.ID)
	m = m.behind("a", first.ID).behind("a", second.ID)
	sure(t, "one text, unlike parents", x, m)
	same(t, "they are unlike", first.ID != second.ID && second.ID != third.ID && first.ID != third.ID, true)
	same(t, "they are of one text", first.Source == second.Source && second.Source == third.Source, true)
	changes := x.disk.Changes()
	for range 2 {
		same(t, "the third one", x.add(t, "a", second.ID), third)
		same(t, "the first one", x.add(t, "a", ""), first)
		same(t, "the second one", x.add(t, "a", first.ID), second)
		unchanged(t, "twice", x, m, changes)
		x = opened(t, x.disk)
	}
}

// Promise 8.2: a text that was put has a commit by Add alone, and it is kept once.
func TestAddOfKeptText(t *testing.T) {
	x := fresh(t)
	x.put(t, "a")
	m := model{}.with("a")
	sure(t, "no commit", x, m)
	x.add(t, "a", "")
	m = m.behind("a", "")
	sure(t, "a commit", x, m)
	x.put(t, "a")
	sure(t, "put again", x, m)
}

// Promise 8.2: a parent that is not there, which a text's digest is not, either.
func TestParentsThatAreNotThere(t *testing.T) {
	x := fresh(t)
	first := x.add(t, "a", "")
	x.put(t, "b")
	x.keep(t, "k", 1)
	m := model{}.behind("a", "").with("b").found([]string{"k"}, []int{1})
	changes := x.disk.Changes()
	for _, parent := range []string{
		"none", "a", first.Source, Digest("b"), ID("b", ""), ID("b", first.ID), first.ID[:31], first.ID + "x", "c" + first.ID, strings.Repeat("x", 63), strings.Repeat("x", 64), longestText,
	} {
		for _, source := range []string{"a", "new"} {
			commit, e := x.Add(source, parent)
			same(t, fmt.Sprintf("Add behind %.80q", parent), e, api.ErrCommit)
			same(t, "the commit beside an error", commit, api.Commit{})
		}
		commit, e := x.Commit(parent)
		same(t, "Commit", e, api.ErrCommit)
		same(t, "the commit beside an error", commit, api.Commit{})
		chain, e := x.Chain(parent)
		same(t, "Chain", e, api.ErrCommit)
		same(t, "the chain beside an error", len(chain), 0)
	}
	_, e := x.Add(longestText+"t", "none")
	same(t, "a text that is too long", e, api.ErrMany)
	unchanged(t, "no parent", x, m, changes)
	x.disk.Crash(0, 0)
	_, e = x.Add("new", "none")
	same(t, "without power", e, api.ErrCommit)
}

// Promise 8.2: the order is that of places, beyond what one byte can say.
func TestManyCommits(t *testing.T) {
	const many = 600
	x := fresh(t)
	m := model{}
	for i := range many {
		parent := ""
		if i > 0 {
			parent = m.commits[max(i-1-i%2, 0)].ID
		}
		source := fmt.Sprint(i % 100)
		m = m.behind(source, parent)
		same(t, "the commit", x.add(t, source, parent), m.commits[i])
	}
	same(t, "Count", x.Count(), many)
	commits(t, "List", x.List(), m.commits)
	last := m.commits[many-1].ID
	chain, e := x.Chain(last)
	ok(t, "Chain", e)
	commits(t, "Chain", chain, m.chain(last))
	sure(t, "many", x, m)
}

// Rule R2: what is answered is the caller's own.
func TestListsAreTheCallersOwn(t *testing.T) {
	x := fresh(t)
	first := x.add(t, "a", "")
	second := x.add(t, "b", first.ID)
	m := model{}.behind("a", "").behind("b", first.ID)
	chain, e := x.Chain(second.ID)
	ok(t, "Chain", e)
	for _, list := range [][]api.Commit{x.List(), chain} {
		for i := range list {
			list[i] = api.Commit{}
		}
		_ = append(list[:1], api.Commit{ID: "x"})
	}
	sure(t, "changed lists", x, m)
	list := x.List()
	x.add(t, "c", "")
	commits(t, "a list from ahead of an Add", list, m.commits)
}

// Rule R1: bytes behind a commit's key that are not of its form are no commit's.
func TestBrokenCommits(t *testing.T) {
	good := record(api.Commit{Source: textDigest("a"), Order: 7})
	long := strings.Repeat("x", 33)
	for _, bytes := range []string{
		"", "a", good[:len(good)-1], good + "x", good[1:], text("") + number(0), text(long) + text("") + number(0), text("") + text(long) + number(0), "\xff\xff\xff\xff" + good[4:],
	} {
		x := fresh(t)
		id := commitDigest("a", "")
		x.force(t, "c"+id, bytes)
		x.force(t, "o"+highest(0), id)
		words := x.words()
		commit, e := x.Commit(id)
		same(t, "Commit", e, api.ErrForm)
		same(t, "the commit beside an error", commit, api.Commit{})
		chain, e := x.Chain(id)
		same(t, "Chain", e, api.ErrForm)
		same(t, "the chain beside an error", len(chain), 0)
		commit, e = x.Add("a", "")
		same(t, "Add", e, api.ErrForm)
		same(t, "the commit beside an error", commit, api.Commit{})
		_, e = x.Add("b", id)
		same(t, "Add behind it", e, api.ErrForm)
		same(t, "List", len(x.List()), 0)
		same(t, "the pairs", x.words(), words)
	}
}

// Rule R1: a chain of commits that nobody added ends, whatever they say of their parents.
func TestBrokenChains(t *testing.T) {
	for _, chain := range []struct {
		commits []api.Commit
		want    api.Errno
	}{
		{[]api.Commit{{ID: "a", Parent: "a"}}, api.ErrForm},
		{[]api.Commit{{ID: "a", Parent: "b", Order: 1}, {ID: "b", Parent: "a"}}, api.ErrForm},
		{[]api.Commit{{ID: "a", Parent: "b", Order: 9}, {ID: "b", Parent: "c", Order: 8}, {ID: "c", Parent: "b", Order: 7}}, api.ErrForm},
		{[]api.Commit{{ID: "a", Parent: "b", Order: 1}, {ID: "b", Order: 2}}, api.ErrForm},
		{[]api.Commit{{ID: "a", Parent: "b", Order: 1}}, api.ErrCommit},
		{[]api.Commit{{ID: "a", Parent: "b", Order: 2}, {ID: "b", Parent: "c", Order: 1}}, api.ErrCommit},
		{[]api.Commit{{ID: "a", Parent: "b", Order: 1 << 63}, {ID: "b", Parent: "c", Order: 3}, {ID: "c"}}, api.OK},
	} {
		x := fresh(t)
		for _, commit := range chain.commits {
			x.force(t, "c"+commit.ID, record(commit))
		}
		got, e := x.Chain("a")
		same(t, "Chain", e, chain.want)
		if e == api.OK {
			commits(t, "Chain", got, chain.commits)
		} else {
			same(t, "the chain beside an error", len(got), 0)
		}
	}
}
