package cas

import (
	"crypto/sha3"
	"encoding/binary"
	"fmt"
	"maps"
	"slices"
	"strings"
	"testing"

	"cupel/api"
	"cupel/disk"
	"cupel/store"
)

var longestText = strings.Repeat("t", api.MaxBlob)

// same holds two comparable answers against each other.
func same[T comparable](t *testing.T, name string, got, want T) {
	t.Helper()
	if got != want {
		t.Errorf("%s: %.300s, not %.300s", name, fmt.Sprintf("%#v", got), fmt.Sprintf("%#v", want))
	}
}

// ok tells that a call answered no error.
func ok(t *testing.T, name string, e api.Errno) {
	t.Helper()
	if e != api.OK {
		t.Fatalf("%s: %d", name, e)
	}
}

// shelf is a store on a disk, and what lies below it.
type shelf struct {
	*Store
	raw  *store.Store
	disk *disk.Disk
}

// opened is the shelf of a disk that opens.
func opened(t *testing.T, d *disk.Disk) shelf {
	t.Helper()
	s, e := store.Open(d)
	ok(t, "Open", e)
	c, e := New(s)
	ok(t, "New", e)
	return shelf{c, s, d}
}

// fresh is a shelf on an empty disk.
func fresh(t *testing.T) shelf {
	t.Helper()
	return opened(t, disk.New())
}

// copied is a shelf on a copy of another one's disk.
func (x shelf) copied(t *testing.T) shelf {
	t.Helper()
	return opened(t, x.disk.Clone())
}

// put, add and keep do what must be done.
func (x shelf) put(t *testing.T, texts ...string) {
	t.Helper()
	for _, s := range texts {
		_, e := x.Put(s)
		ok(t, "Put", e)
	}
}

func (x shelf) add(t *testing.T, source, parent string) api.Commit {
	t.Helper()
	commit, e := x.Add(source, parent)
	ok(t, "Add", e)
	return commit
}

func (x shelf) keep(t *testing.T, key string, n int) {
	t.Helper()
	ok(t, "Keep", x.Keep([]string{key}, []int{n}))
}

// force puts a pair right into the store, past all rules.
func (x shelf) force(t *testing.T, key, value string) {
	t.Helper()
	ok(t, "Apply", x.raw.Apply([]api.Change{{Key: key, Value: value}}))
}

// tagged is the digest of parts for a purpose, by the library.
func tagged(purpose byte, parts ...string) string {
	var b []byte
	for _, part := range parts {
		b = append(b, part...)
		b = binary.LittleEndian.AppendUint64(b, uint64(len(part)))
	}
	sum := sha3.Sum256(append(b, purpose))
	return string(sum[:])
}

// textDigest and commitDigest are the digests of a text, and of a commit of it, by the library.
func textDigest(s string) string           { return tagged('B', s) }
func commitDigest(source, p string) string { return tagged('C', textDigest(source), p) }

// text is a text with its count, by the library.
func text(s string) string {
	return string(binary.LittleEndian.AppendUint32(nil, uint32(len(s)))) + s
}

// number is eight bytes, the lowest first, and highest the highest first.
func number(n uint64) string  { return string(binary.LittleEndian.AppendUint64(nil, n)) }
func highest(n uint64) string { return string(binary.BigEndian.AppendUint64(nil, n)) }

// record is what must stand behind a commit's key.
func record(x api.Commit) string { return text(x.Source) + text(x.Parent) + number(x.Order) }

// model is what a shelf must have.
type model struct {
	blobs    map[string]string // by digests
	commits  []api.Commit
	verdicts map[string]int
}

func (m model) clone() model {
	other := model{map[string]string{}, slices.Clone(m.commits), map[string]int{}}
	maps.Copy(other.blobs, m.blobs)
	maps.Copy(other.verdicts, m.verdicts)
	return other
}

// with is the model with texts kept.
func (m model) with(texts ...string) model {
	m = m.clone()
	for _, s := range texts {
		m.blobs[textDigest(s)] = s
	}
	return m
}

// behind is the model with a commit added, if it is not there.
func (m model) behind(source, parent string) model {
	id := commitDigest(source, parent)
	if slices.ContainsFunc(m.commits, func(x api.Commit) bool { return x.ID == id }) {
		return m
	}
	m = m.with(source)
	m.commits = append(m.commits, api.Commit{ID: id, Source: textDigest(source), Parent: parent, Order: uint64(len(m.commits))})
	return m
}

// found is the model with verdicts kept.
func (m model) found(keys []string, l []int) model {
	m = m.clone()
	for i, key := range keys {
		m.verdicts[key] = l[i]
	}
	return m
}

// chain is a commit of a model and those ahead of it, the last one first.
func (m model) chain(id string) []api.Commit {
	var l []api.Commit
	for id != "" {
		i := slices.IndexFunc(m.commits, func(x api.Commit) bool { return x.ID == id })
		l = append(l, m.commits[i])
		id = m.commits[i].Parent
	}
	return l
}

// pairs is all that the store below must have.
func (m model) pairs() map[string]string {
	pairs := map[string]string{}
	for digest, s := range m.blobs {
		pairs["b"+digest] = s
	}
	for i, x := range m.commits {
		pairs["c"+x.ID] = record(x)
		pairs["o"+highest(uint64(i))] = x.ID
	}
	for key, n := range m.verdicts {
		pairs["v"+key] = string([]byte{byte(n)})
	}
	return pairs
}

// words is the model's pairs, in words.
func (m model) words() string {
	var b strings.Builder
	pairs := m.pairs()
	for _, key := range slices.Sorted(maps.Keys(pairs)) {
		fmt.Fprintf(&b, "%q=%q;", key, pairs[key])
	}
	return b.String()
}

// words is the pairs of the store below, in words.
func (x shelf) words() string {
	var b strings.Builder
	for key, value := range x.raw.All("") {
		fmt.Fprintf(&b, "%q=%q;", key, value)
	}
	return b.String()
}

// has holds all that a shelf tells against a model.
func has(t *testing.T, name string, x shelf, m model) {
	t.Helper()
	same(t, name+": the pairs", x.words(), m.words())
	for digest, want := range m.blobs {
		got, e := x.Blob(digest)
		same(t, name+": Blob's error", e, api.OK)
		same(t, name+": Blob", got, want)
	}
	same(t, name+": Count", x.Count(), uint64(len(m.commits)))
	commits(t, name+": List", x.List(), m.commits)
	for _, want := range m.commits {
		got, e := x.Commit(want.ID)
		same(t, name+": Commit's error", e, api.OK)
		same(t, name+": Commit", got, want)
		chain, e := x.Chain(want.ID)
		same(t, name+": Chain's error", e, api.OK)
		commits(t, name+": Chain", chain, m.chain(want.ID))
	}
	for key, want := range m.verdicts {
		got, is := x.Verdict(key)
		same(t, name+": Verdict", got, want)
		same(t, name+": Verdict's answer", is, true)
	}
	if got := x.Verdicts(); !maps.Equal(got, m.verdicts) {
		t.Errorf("%s: Verdicts: %.300s, not %.300s", name, fmt.Sprintf("%#v", got), fmt.Sprintf("%#v", m.verdicts))
	}
	absent(t, name, x)
}

// commits holds two lists of commits against each other.
func commits(t *testing.T, name string, got, want []api.Commit) {
	t.Helper()
	if !slices.Equal(got, want) {
		t.Errorf("%s: %.300s, not %.300s", name, fmt.Sprintf("%#v", got), fmt.Sprintf("%#v", want))
	}
}

// absent tells that a shelf answers as it must of what no test keeps.
func absent(t *testing.T, name string, x shelf) {
	t.Helper()
	for _, key := range []string{"", "none", textDigest("none of the texts"), strings.Repeat("k", 33), strings.Repeat("k", 64), longestText} {
		s, e := x.Blob(key)
		same(t, name+": Blob of what is not there", e, api.ErrNone)
		same(t, name+": the text beside an error", s, "")
		commit, e := x.Commit(key)
		same(t, name+": Commit of what is not there", e, api.ErrCommit)
		same(t, name+": the commit beside an error", commit, api.Commit{})
		chain, e := x.Chain(key)
		same(t, name+": Chain of what is not there", e, api.ErrCommit)
		same(t, name+": the chain beside an error", len(chain), 0)
	}
	for _, key := range []string{"none", strings.Repeat("\xfe", 32), strings.Repeat("k", 33), strings.Repeat("k", 64), longestText} {
		n, is := x.Verdict(key)
		same(t, name+": Verdict of what is not there", is, false)
		same(t, name+": the verdict beside it", n, 0)
	}
}

// sure tells that a shelf has what a model has, that all of it is sure, and that it is so behind a fall.
func sure(t *testing.T, name string, x shelf, m model) {
	t.Helper()
	has(t, name, x, m)
	same(t, name+": loose changes", x.disk.Loose(), 0)
	d := x.disk.Clone()
	d.Crash(0, 0)
	reopened(t, name, d, m)
}

// reopened tells that a disk opens to what a model has, and twice as once.
func reopened(t *testing.T, name string, d *disk.Disk, m model) {
	t.Helper()
	d = d.Clone()
	d.Plan(nil)
	d.Up()
	has(t, name+", opened", opened(t, d), m)
	file, e := d.Read("log")
	has(t, name+", opened twice", opened(t, d), m)
	again, f := d.Read("log")
	same(t, name+": the file, opened twice", again, file)
	same(t, name+": its error, opened twice", f, e)
}

// unchanged tells that a shelf has what a model has, and that nothing was laid since its disk had so many changes.
func unchanged(t *testing.T, name string, x shelf, m model, changes int) {
	t.Helper()
	same(t, name+": changes of the disk", x.disk.Changes(), changes)
	sure(t, name, x, m)
}
