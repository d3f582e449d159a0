package cas

import (
	"fmt"
	"strings"
	"testing"

	"cupel/api"
	"cupel/disk"
	"cupel/store"
)

// The chapter's example.
func TestExample(t *testing.T) {
	x := fresh(t)
	first := x.add(t, "text", "")
	same(t, "the second one", x.add(t, "text", ""), first)
	sure(t, "one commit", x, model{}.behind("text", ""))
}

// Words: a text's digest is that for the purpose B, and a commit's that for the purpose C of its source's digest and its parent.
func TestDigests(t *testing.T) {
	texts := []string{"", "a", "ab", "\x00\xff", "B", longestText, longestText + "t", strings.Repeat("x", 32)}
	for _, s := range texts {
		same(t, "Digest", Digest(s), textDigest(s))
		for _, parent := range append(texts, ID(s, "")) {
			same(t, "ID", ID(s, parent), commitDigest(s, parent))
		}
	}
	same(t, "bytes of a digest", len(Digest("")), api.HashBytes)
	same(t, "bytes of an ID", len(ID("", "")), api.HashBytes)
	same(t, "a digest as it stands", fmt.Sprintf("%x", Digest("abc")), "d4a2c278bdaed02f9c91a2aab9b5eacddba1371afd3d43c8986bf8c838e5056f")
	same(t, "an ID as it stands", fmt.Sprintf("%x", ID("abc", "")), "62d86b33dc69ca7a6b9dd8a7c8508a60dea2846bf0b607d44b5a75de34d41f02")
}

// Promise 8.1: a shelf of an empty store has nothing, and lays nothing.
func TestNothing(t *testing.T) {
	x := fresh(t)
	for range 2 {
		unchanged(t, "nothing", x, model{}, 0)
		same(t, "files", len(x.disk.Names()), 0)
		same(t, "List", len(x.List()), 0)
		same(t, "Verdicts", len(x.Verdicts()), 0)
		n, is := x.Verdict("")
		same(t, "Verdict of an empty key", n, 0)
		same(t, "whether there is one", is, false)
		x = opened(t, x.disk)
	}
}

// Promises 8.1, 8.3: a nil store of either package, and one that New did not make.
func TestNilStores(t *testing.T) {
	c, e := New(nil)
	same(t, "New of a nil store", e, api.ErrArg)
	same(t, "the store beside an error", c, nil)
	for _, c := range []*Store{nil, {}} {
		for _, s := range []string{"", "a", longestText, longestText + "t"} {
			text, e := c.Blob(s)
			same(t, "Blob", e, api.ErrArg)
			same(t, "Blob", text, "")
			digest, e := c.Put(s)
			same(t, "Put", e, api.ErrArg)
			same(t, "Put", digest, "")
			commit, e := c.Commit(s)
			same(t, "Commit", e, api.ErrArg)
			same(t, "Commit", commit, api.Commit{})
			for _, parent := range []string{"", "none"} {
				commit, e = c.Add(s, parent)
				same(t, "Add", e, api.ErrArg)
				same(t, "Add", commit, api.Commit{})
			}
			chain, e := c.Chain(s)
			same(t, "Chain", e, api.ErrArg)
			same(t, "Chain", len(chain), 0)
			n, is := c.Verdict(s)
			same(t, "Verdict", n, 0)
			same(t, "Verdict", is, false)
			same(t, "Keep", c.Keep([]string{s}, []int{1}), api.ErrArg)
		}
		same(t, "Keep of nothing", c.Keep(nil, nil), api.ErrArg)
		same(t, "Count", c.Count(), 0)
		same(t, "List", len(c.List()), 0)
		same(t, "Verdicts", len(c.Verdicts()), 0)
		same(t, "Compact", c.Compact(), api.ErrArg)
	}
}

// Rule R1: a store that Open did not make is one that has nothing, and takes nothing.
func TestStoreThatWasNotOpened(t *testing.T) {
	c, e := New(&store.Store{})
	same(t, "New", e, api.OK)
	_, e = c.Put("a")
	same(t, "Put", e, api.ErrArg)
	_, e = c.Blob("a")
	same(t, "Blob", e, api.ErrArg)
	_, e = c.Add("a", "")
	same(t, "Add", e, api.ErrArg)
	_, e = c.Commit("a")
	same(t, "Commit", e, api.ErrArg)
	same(t, "Keep", c.Keep([]string{"a"}, []int{1}), api.ErrArg)
	same(t, "Compact", c.Compact(), api.ErrArg)
	same(t, "Count", c.Count(), 0)
}

// Promise 8.1: a text that is put, put again, and got again behind an opening.
func TestPut(t *testing.T) {
	x := fresh(t)
	m := model{}
	texts := []string{"a", "", "b", "\x00", "\xff\xfe", "line\nline", "ä", "ab", strings.Repeat("a", 32), Digest("a"), longestText}
	for _, s := range texts {
		m = m.with(s)
		for range 2 {
			digest, e := x.Put(s)
			ok(t, "Put", e)
			same(t, "its digest", digest, textDigest(s))
			sure(t, fmt.Sprintf("Put of %.80q", s), x, m)
			got, e := x.Blob(digest)
			ok(t, "Blob", e)
			same(t, "the text", got, s)
		}
	}
	x = opened(t, x.disk)
	sure(t, "all, opened again", x, m)
	changes := x.disk.Changes()
	for _, s := range texts {
		digest, e := x.Put(s)
		ok(t, "Put again", e)
		same(t, "its digest", digest, textDigest(s))
	}
	unchanged(t, "all put again", x, m, changes)
}

// Promise 8.1: a text of MaxBlob bytes, and those of more; they are not kept, and nothing else is.
func TestLongTexts(t *testing.T) {
	x := fresh(t)
	digest, e := x.Put(longestText)
	ok(t, "Put", e)
	same(t, "its digest", digest, textDigest(longestText))
	m := model{}.with(longestText)
	sure(t, "the longest one", x, m)
	changes := x.disk.Changes()
	for _, s := range []string{longestText + "t", strings.Repeat("x", api.MaxValue), strings.Repeat("x", api.MaxValue+1), strings.Repeat("x", 1<<20)} {
		digest, e := x.Put(s)
		same(t, "Put", e, api.ErrMany)
		same(t, "the digest beside an error", digest, "")
		_, e = x.Blob(Digest(s))
		same(t, "Blob", e, api.ErrNone)
		for _, parent := range []string{"", "none"} {
			commit, e := x.Add(s, parent)
			same(t, "Add", e, api.ErrMany)
			same(t, "the commit beside an error", commit, api.Commit{})
		}
	}
	unchanged(t, "too long ones", x, m, changes)
	x.add(t, longestText[1:]+"u", "")
	sure(t, "a commit of the longest text", x, m.behind(longestText[1:]+"u", ""))
	x.disk.Crash(0, 0)
	_, e = x.Put(longestText + "t")
	same(t, "without power", e, api.ErrMany)
}

// Promises 8.1, 8.2, T1: another text that is kept by a text's digest is told, and nothing is changed.
func TestClash(t *testing.T) {
	for _, other := range []string{"other", "", "tex", "texts", "text\x00", "Text", "texu", longestText} {
		x := fresh(t)
		parent := x.add(t, "ahead", "")
		x.force(t, "b"+textDigest("text"), other)
		m := model{}.behind("ahead", "")
		m.blobs[textDigest("text")] = other
		changes := x.disk.Changes()
		for range 2 {
			digest, e := x.Put("text")
			same(t, "Put", e, api.ErrClash)
			same(t, "the digest beside an error", digest, "")
			for _, id := range []string{"", parent.ID} {
				commit, e := x.Add("text", id)
				same(t, "Add", e, api.ErrClash)
				same(t, "the commit beside an error", commit, api.Commit{})
			}
			_, e = x.Add("text", "none")
			same(t, "Add behind no commit", e, api.ErrCommit)
			unchanged(t, "another text", x, m, changes)
		}
		x.put(t, "one more")
		sure(t, "one more text", x, m.with("one more"))
	}
}

// Promises 8.2, T1: a commit that is there already is told as a clash, if a text clashes, or if it is of another source or parent.
func TestClashOfCommits(t *testing.T) {
	x := fresh(t)
	first := x.add(t, "text", "")
	x.force(t, "b"+textDigest("text"), "other")
	_, e := x.Add("text", "")
	same(t, "a commit whose text is another one", e, api.ErrClash)

	for _, wrong := range []api.Commit{
		{Source: textDigest("other")}, {Source: textDigest("text"), Parent: first.ID}, {},
	} {
		x := fresh(t)
		x.force(t, "c"+commitDigest("text", ""), record(wrong))
		words, changes := x.words(), x.disk.Changes()
		commit, e := x.Add("text", "")
		same(t, "a commit of another source or parent", e, api.ErrClash)
		same(t, "the commit beside an error", commit, api.Commit{})
		same(t, "the pairs", x.words(), words)
		same(t, "changes of the disk", x.disk.Changes(), changes)
	}
}

// Promise 8.3: all of it stands behind Compact, and the log has no more bytes than it needs.
func TestCompact(t *testing.T) {
	x := fresh(t)
	m := model{}
	ok(t, "Compact of nothing", x.Compact())
	sure(t, "nothing", x, m)
	for i := range 40 {
		source := fmt.Sprint("source ", i)
		parent := ""
		if i%5 > 0 {
			parent = m.commits[i/2].ID
		}
		x.add(t, source, parent)
		x.put(t, fmt.Sprint("text ", i))
		x.keep(t, fmt.Sprint("key ", i%30), i)
		m = m.behind(source, parent).with(fmt.Sprint("text ", i)).found([]string{fmt.Sprint("key ", i%30)}, []int{i})
		if i%10 == 0 {
			before := x.raw.Len()
			ok(t, "Compact", x.Compact())
			same(t, "it is shorter", x.raw.Len() < before, true)
			sure(t, "behind Compact", x, m)
			again := x.raw.Len()
			ok(t, "Compact again", x.Compact())
			same(t, "it has as many bytes", x.raw.Len(), again)
			sure(t, "behind Compact again", x, m)
		}
	}
	ok(t, "Compact", x.Compact())
	sure(t, "all of it", x, m)
	same(t, "a commit that is there", x.add(t, "source 0", ""), m.commits[0])
	x.add(t, "new", m.commits[39].ID)
	sure(t, "and one more", opened(t, x.disk), m.behind("new", m.commits[39].ID))
}

// Rule R5 and Words: what one store of a store keeps, another one of it has; nothing is remembered beside it.
func TestTwoOfOneStore(t *testing.T) {
	x := fresh(t)
	c, e := New(x.raw)
	ok(t, "New", e)
	y := shelf{c, x.raw, x.disk}
	first := x.add(t, "a", "")
	second := y.add(t, "b", first.ID)
	x.add(t, "c", second.ID)
	y.put(t, "d")
	x.keep(t, "k", 7)
	m := model{}.behind("a", "").behind("b", first.ID).behind("c", second.ID).with("d").found([]string{"k"}, []int{7})
	sure(t, "the first one", x, m)
	sure(t, "the second one", y, m)
}

// Rule R4: the same calls lay the same bytes.
func TestSameCallsSameBytes(t *testing.T) {
	var files [2]string
	for i := range files {
		x := fresh(t)
		first := x.add(t, "a", "")
		x.put(t, "b", "c", "a")
		ok(t, "Keep", x.Keep([]string{"z", "y", "x", "z"}, []int{1, 2, 3, 4}))
		x.add(t, "d", first.ID)
		ok(t, "Compact", x.Compact())
		x.put(t, longestText)
		files[i], _ = x.disk.Read("log")
	}
	same(t, "the file", files[1], files[0])
}

// Promises 8.1 to 8.3: without power what is kept is told, what is there already stays, and all else is refused.
func TestWithoutPower(t *testing.T) {
	x := fresh(t)
	first := x.add(t, "a", "")
	x.keep(t, "k", 7)
	m := model{}.behind("a", "").found([]string{"k"}, []int{7})
	x.disk.Crash(0, 0)
	digest, e := x.Put("b")
	same(t, "Put", e, api.ErrDead)
	same(t, "the digest beside an error", digest, "")
	commit, e := x.Add("b", first.ID)
	same(t, "Add", e, api.ErrDead)
	same(t, "the commit beside an error", commit, api.Commit{})
	same(t, "Keep", x.Keep([]string{"l"}, []int{1}), api.ErrDead)
	same(t, "Keep of nothing", x.Keep(nil, nil), api.ErrDead)
	same(t, "Compact", x.Compact(), api.ErrDead)
	same(t, "a commit that is there", x.add(t, "a", ""), first)
	x.put(t, "a")
	has(t, "without power", x, m)
	reopened(t, "with power", x.disk, m)
}

// Promises 8.1 to 8.3: without room nothing is changed; what needs none is done, and all is done when there is room.
func TestNoRoom(t *testing.T) {
	x := fresh(t)
	first := x.add(t, "a", "")
	x.put(t, "b")
	x.keep(t, "k", 7)
	before := model{}.behind("a", "").with("b").found([]string{"k"}, []int{7})
	after := before.with("c").behind("d", first.ID).behind("b", "").found([]string{"k", "l"}, []int{8, 9})
	x.disk.Room(x.disk.Used())
	changes := x.disk.Changes()
	digest, e := x.Put("c")
	same(t, "Put", e, api.ErrFull)
	same(t, "the digest beside an error", digest, "")
	for _, source := range []string{"d", "b"} {
		commit, e := x.Add(source, first.ID)
		same(t, "Add", e, api.ErrFull)
		same(t, "the commit beside an error", commit, api.Commit{})
	}
	same(t, "Keep", x.Keep([]string{"k", "l"}, []int{8, 9}), api.ErrFull)
	same(t, "Compact", x.Compact(), api.ErrFull)
	same(t, "a commit that is there", x.add(t, "a", ""), first)
	x.put(t, "a", "b")
	unchanged(t, "no room", x, before, changes)

	x.disk.Room(-1)
	x.put(t, "c")
	x.add(t, "d", first.ID)
	x.add(t, "b", "")
	ok(t, "Keep", x.Keep([]string{"k", "l"}, []int{8, 9}))
	sure(t, "room", x, after)
	ok(t, "Compact", x.Compact())
	sure(t, "laid anew", x, after)
}

// Promise 8.2: with any room an Add is done whole, or not at all.
func TestAnyRoom(t *testing.T) {
	x := fresh(t)
	first := x.add(t, "a", "")
	before := model{}.behind("a", "")
	after := before.behind("b", first.ID)
	y := x.copied(t)
	y.add(t, "b", first.ID)
	need := y.disk.Used() - x.disk.Used()
	for room := range need + 2 {
		y := x.copied(t)
		y.disk.Room(y.disk.Used() + room)
		commit, e := y.Add("b", first.ID)
		if room >= need {
			ok(t, "Add", e)
			same(t, "the commit", commit, after.commits[1])
			has(t, "room", y, after)
			continue
		}
		same(t, "Add", e, api.ErrFull)
		same(t, "the commit beside an error", commit, api.Commit{})
		has(t, "no room", y, before)
	}
}

// Rule R1: whatever stands in a store, each call ends.
func TestAnyPairs(t *testing.T) {
	heads := []string{"", "b", "c", "o", "v", "x"}
	values := []string{"", "a", "\x00", number(0), text("") + text("") + number(1), text("b") + text("c") + number(1), longestText}
	for _, head := range heads {
		for _, rest := range []string{"", "a", "b", highest(0), highest(1), textDigest("a"), commitDigest("a", ""), strings.Repeat("k", 63)} {
			for _, value := range values {
				if head+rest != "" {
					anyPair(t, head+rest, value)
				}
			}
		}
	}
}

// anyPair lets a store with a pair in it answer to all calls.
func anyPair(t *testing.T, key, value string) {
	x := opened(t, disk.New())
	x.force(t, key, value)
	x.List()
	x.Count()
	x.Verdicts()
	for _, s := range []string{"", "a", "b", Digest("a"), ID("a", ""), key[1:]} {
		x.Blob(s)
		x.Commit(s)
		x.Chain(s)
		x.Verdict(s)
		x.Put(s)
		x.Add(s, "")
		x.Add("a", s)
		x.Keep([]string{s}, []int{1})
	}
	ok(t, "Compact", x.Compact())
}
