package store

import (
	"encoding/binary"
	"fmt"
	"hash/adler32"
	"maps"
	"slices"
	"strings"
	"testing"

	"cupel/api"
	"cupel/disk"
)

var (
	longestKey   = strings.Repeat("k", api.MaxKey)
	longestValue = strings.Repeat("v", api.MaxValue)
)

// same holds two comparable answers against each other.
func same[T comparable](t *testing.T, name string, got, want T) {
	t.Helper()
	if got != want {
		t.Errorf("%s: %.300s, not %.300s", name, fmt.Sprintf("%#v", got), fmt.Sprintf("%#v", want))
	}
}

// ok tells that a call answered no error.
func ok(t *testing.T, name string, e api.Errno) {
	t.Helper()
	if e != api.OK {
		t.Fatalf("%s: %d", name, e)
	}
}

// opened is the store of a disk that opens.
func opened(t *testing.T, d *disk.Disk) *Store {
	t.Helper()
	s, e := Open(d)
	if e != api.OK || s == nil {
		t.Fatalf("Open: %v, %d", s, e)
	}
	return s
}

// fresh is a store on an empty disk.
func fresh(t *testing.T) (*Store, *disk.Disk) {
	t.Helper()
	d := disk.New()
	return opened(t, d), d
}

// with is a disk whose file log has these bytes, which are sure.
func with(t *testing.T, file string) *disk.Disk {
	t.Helper()
	d := disk.New()
	ok(t, "Write", d.Write("log", file))
	ok(t, "Sync", d.Sync())
	return d
}

// fileOf is the bytes of the file log; of a dead disk, too.
func fileOf(d *disk.Disk) string {
	c := d.Clone()
	c.Up()
	s, _ := c.Read("log")
	return s
}

// put and gone are changes.
func put(key, value string) api.Change { return api.Change{Key: key, Value: value} }
func gone(key string) api.Change       { return api.Change{Key: key, Gone: true} }

// puts is a change for each key, with the value that valueOf has for it.
func puts(keys ...string) []api.Change {
	var l []api.Change
	for _, key := range keys {
		l = append(l, put(key, valueOf(key)))
	}
	return l
}

func valueOf(key string) string { return "of " + key }

// numbers is keys of three digits: n of them, from one on.
func numbers(from, n int) []string {
	var keys []string
	for i := range n {
		keys = append(keys, fmt.Sprintf("%03d", from+i))
	}
	return keys
}

// apply does changes that must be done, as many at once as may be.
func apply(t *testing.T, s *Store, l ...api.Change) {
	t.Helper()
	for some := range slices.Chunk(l, api.MaxBatch) {
		ok(t, "Apply", s.Apply(some))
	}
}

// filled is a store on a disk of its own that has what a model has, put key by key.
func filled(t *testing.T, m model) (*Store, *disk.Disk) {
	t.Helper()
	s, d := fresh(t)
	for _, key := range slices.Sorted(maps.Keys(m)) {
		apply(t, s, put(key, m[key]))
	}
	return s, d
}

// model is what a store must have.
type model map[string]string

// with is the model with changes done.
func (m model) with(l ...api.Change) model {
	other := maps.Clone(m)
	if other == nil {
		other = model{}
	}
	for _, c := range l {
		if c.Gone {
			delete(other, c.Key)
		} else {
			other[c.Key] = c.Value
		}
	}
	return other
}

// words is the keys of a model that begin with a text, and their values, in words.
func (m model) words(head string) string {
	var b strings.Builder
	for _, key := range slices.Sorted(maps.Keys(m)) {
		if strings.HasPrefix(key, head) {
			fmt.Fprintf(&b, "%q=%q;", key, m[key])
		}
	}
	return b.String()
}

// words is all that a store tells of the keys that begin with a text, in the words of a model.
func words(s *Store, head string) string {
	var b strings.Builder
	for key, value := range s.All(head) {
		fmt.Fprintf(&b, "%q=%q;", key, value)
	}
	return b.String()
}

// has holds all that a store tells, and each value that it has, against a model.
func has(t *testing.T, name string, s *Store, m model) {
	t.Helper()
	same(t, name+": All", words(s, ""), m.words(""))
	for key, want := range m {
		value, e := s.Get(key)
		same(t, name+": Get's error", e, api.OK)
		same(t, name+": Get", value, want)
	}
	absent(t, s, "none of the keys")
	same(t, name+": whether there is a root", s.Snapshot() >= 0, len(m) > 0)
}

// absent tells that a store does not have a key.
func absent(t *testing.T, s *Store, key string) {
	t.Helper()
	value, e := s.Get(key)
	same(t, fmt.Sprintf("Get of %.80q", key), e, api.ErrNone)
	same(t, "the value beside an error", value, "")
}

// sure tells that a store has what a model has, that all of it is sure, and that it is so behind an opening, and a second one.
func sure(t *testing.T, name string, d *disk.Disk, s *Store, m model) {
	t.Helper()
	has(t, name, s, m)
	same(t, name+": loose changes", d.Loose(), 0)
	same(t, name+": Len", s.Len(), len(fileOf(d)))
	c := d.Clone()
	c.Crash(0, 0)
	reopened(t, name, c, m)
}

// reopened tells that a disk opens to what a model has, and twice as once.
func reopened(t *testing.T, name string, d *disk.Disk, m model) {
	t.Helper()
	d = d.Clone()
	d.Plan(nil)
	d.Up()
	s := opened(t, d)
	has(t, name+", opened", s, m)
	file, root, changes := fileOf(d), s.Snapshot(), d.Changes()
	same(t, name+": Len, opened", s.Len(), len(file))
	s = opened(t, d)
	same(t, name+": All, opened twice", words(s, ""), m.words(""))
	same(t, name+": the root, opened twice", s.Snapshot(), root)
	same(t, name+": the file, opened twice", fileOf(d), file)
	same(t, name+": changes, opened twice", d.Changes(), changes)
	if len(d.Names()) > 1 {
		t.Errorf("%s: files %q", name, d.Names())
	}
}

// framed is a frame, by the library.
func framed(s string) string {
	b := binary.LittleEndian.AppendUint32(nil, uint32(len(s)))
	b = append(b, s...)
	return string(binary.LittleEndian.AppendUint32(b, adler32.Checksum(b)))
}

// rec and mark are the frames of a record and of a marker.
func rec(s string) string  { return framed("d" + s) }
func mark(s string) string { return framed("m" + s) }

// rooted is the frame of a marker whose text says a root's place.
func rooted(root int) string { return mark(count(root + 1)) }

// count is a count, by the library.
func count(n int) string { return string(binary.LittleEndian.AppendUint32(nil, uint32(n))) }

// text is a text with its count.
func text(s string) string { return count(len(s)) + s }

// leaf is the bytes of a leaf with the values that valueOf has for its keys, and node those of another page.
func leaf(keys ...string) string { return leafOf(puts(keys...)...) }

func leafOf(l ...api.Change) string {
	s := "\x01" + string(rune(len(l)))
	for _, c := range l {
		s += text(c.Key)
	}
	for _, c := range l {
		s += text(c.Value)
	}
	return s
}

func node(keys []string, kids ...int) string {
	s := "\x00" + string(rune(len(keys)))
	for _, key := range keys {
		s += text(key)
	}
	for _, kid := range kids {
		s += count(kid)
	}
	return s
}

// frame is a frame of a file: where it begins, whether it is a marker's, its text.
type frame struct {
	at   int
	mark bool
	text string
}

// frames is the frames of a file, all of which must be right.
func frames(t *testing.T, file string) []frame {
	t.Helper()
	var l []frame
	for at := 0; at < len(file); {
		n := 0
		if len(file)-at >= 8 {
			n = int(binary.LittleEndian.Uint32([]byte(file[at:])))
		}
		if n == 0 || n > len(file)-at-8 || framed(file[at+4:at+4+n]) != file[at:at+n+8] {
			t.Fatalf("no frame at %d", at)
		}
		l = append(l, frame{at, file[at+4] == 'm', file[at+5 : at+4+n]})
		at += n + 8
	}
	return l
}
