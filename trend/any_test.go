package trend

import (
	"encoding/binary"
	"math/rand"
	"strings"
	"testing"

	"cupel/api"
	"cupel/cas"
)

// record is what stands behind a commit's key, by the library.
func record(source, parent string, place uint64) string {
	text := func(s string) string { return string(binary.LittleEndian.AppendUint32(nil, uint32(len(s)))) + s }
	return text(source) + text(parent) + string(binary.LittleEndian.AppendUint64(nil, place))
}

// Rule R1: stores that have what nobody added: commits that are none, that have no text, no parent, or stand behind themselves.
func TestForgedCommits(t *testing.T) {
	x := fresh(t)
	good := x.add(t, increment, "")
	digest := cas.Digest(increment)
	x.force(t, "cform", "no commit")
	nothing(t, "bytes that are no commit's", x.Store, "form", api.ErrForm)
	x.force(t, "ctext", record(strings.Repeat("n", 32), "", 1))
	nothing(t, "a commit without a text", x.Store, "text", api.ErrNone)
	x.force(t, "cempty", record("", "", 1))
	nothing(t, "a commit without a digest", x.Store, "empty", api.ErrNone)
	x.force(t, "cparent", record(digest, "none", 7))
	x.force(t, "cforms", record(digest, "form", 7))
	x.force(t, "ctexts", record(digest, "text", 7))
	for id, want := range map[string]api.Errno{"parent": api.ErrCommit, "forms": api.ErrForm, "texts": api.ErrNone} {
		programIs(t, id, x, id, increment)
		row, e := Row(x.Store, id)
		ok(t, id, e)
		same(t, id, row, api.Row{ID: id, Mutants: 2, Killed: 2})
		noHistory(t, id, x.Store, id, want)
		noSelect(t, id, x.Store, id, want)
	}
	x.force(t, "cself", record(digest, "self", 3))
	x.force(t, "ca", record(digest, "b", 4))
	x.force(t, "cb", record(cas.Digest("test t { }"), "a", 5))
	x.force(t, "b"+cas.Digest("test t { }"), "test t { }")
	noHistory(t, "behind itself", x.Store, "self", api.ErrForm)
	selects(t, "behind itself", x, "self")
	noHistory(t, "behind one that is behind it", x.Store, "b", api.ErrForm)
	selects(t, "behind one that is behind it", x, "b", "t")
	histories(t, "one that was added", x, good, api.Row{ID: good, Mutants: 2, Killed: 2})
}

// Rule R1: texts of any bytes that stand by a commit's digest, longer than one may be, too.
func TestForgedTexts(t *testing.T) {
	x := fresh(t)
	for _, s := range []string{strings.Repeat(" ", api.MaxSource+1) + increment, strings.Repeat("(", 8000), strings.Repeat("test t { } ", 700), "\x00", "\xff\xfe"} {
		x.force(t, "btext", s)
		x.force(t, "cid", record("text", "", 0))
		_, e := Program(x.Store, "id")
		if e == api.OK {
			t.Errorf("%s is a program", short(s))
		}
		nothing(t, short(s), x.Store, "id", e)
	}
}

// Rule R1: commits of any texts, pieces of programs and any bytes among them, and any names of commits: each call answers, and all by the same reason.
func TestAnyTexts(t *testing.T) {
	rnd := chance(2)
	ends := map[api.Errno]int{}
	x := fresh(t)
	last := ""
	for range 1500 {
		source := scrambled(rnd, []string{increment, pair, step(1), "test t { assert true; }"}[rnd.Intn(4)])
		id := x.add(t, source, "")
		p, e := Program(x.Store, id)
		ends[e]++
		if e != api.OK {
			nothing(t, short(source), x.Store, id, e)
			continue
		}
		programIs(t, "a scrambled one", x, id, source)
		histories(t, short(source), x, id, rowOf(t, id, source))
		tests := 0
		for _, d := range p.Kids {
			if d.Kind == api.NodeTest {
				tests++
			}
		}
		names, e := Select(x.Store, id)
		ok(t, short(source), e)
		same(t, "tests without a parent", len(names), tests)
		nothing(t, "any name", x.Store, scrambled(rnd, id+last), api.ErrCommit)
		last = id
	}
	for _, e := range []api.Errno{api.OK, api.ErrLex, api.ErrParse, api.ErrKnown} {
		if ends[e] < 10 {
			t.Errorf("too few of a sort: %v", ends)
		}
	}
}

// scrambled is a text with some pieces gone, twice, or otherwise; never the same.
func scrambled(rnd *rand.Rand, s string) string {
	was := s
	for range 1 + rnd.Intn(8)/6 {
		at := rnd.Intn(len(s) + 1)
		to := min(len(s), at+1+rnd.Intn(4))
		switch rnd.Intn(4) {
		case 0:
			s = s[:at] + s[to:]
		case 1:
			s = s[:at] + s[at:to] + s[at:]
		case 2:
			s = s[:at] + []string{" ", "1", "a", "?", "}", "\x80", "!", "+"}[rnd.Intn(8)] + s[at:]
		case 3:
			s = s[:at] + []string{" ", "1", "a", "\x00", "{", "-", "2", "t"}[rnd.Intn(8)] + s[to:]
		}
	}
	if s == was {
		return s + " "
	}
	return s
}
