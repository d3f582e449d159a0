package store

import (
	"fmt"
	"math/rand"
	"strings"
	"testing"

	"cupel/api"
	"cupel/disk"
	"cupel/page"
)

// laid tells that a disk's log is what a log laid anew must be: the pages of its tree alone, each one once, kids ahead of theirs, the root last, and a marker.
func laid(t *testing.T, name string, d *disk.Disk, s *Store) {
	t.Helper()
	l := frames(t, fileOf(d))
	last := l[len(l)-1]
	same(t, name+": a marker is last", last.mark, true)
	records := l[:len(l)-1]
	above := map[int]int{} // how many pages are above one
	for _, f := range records {
		same(t, name+": a record", f.mark, false)
		p, e := page.Decode(f.text)
		ok(t, name+": page.Decode", e)
		for _, kid := range p.Kids {
			if _, is := above[kid]; !is {
				t.Errorf("%s: the page at %d has a kid at %d, which is not ahead of it", name, f.at, kid)
			}
			above[kid]++
		}
		above[f.at] = 0
	}
	root := -1
	if len(records) > 0 {
		root = records[len(records)-1].at
	}
	same(t, name+": the marker's text", last.text, count(root+1))
	same(t, name+": Snapshot", s.Snapshot(), root)
	for at, n := range above {
		same(t, fmt.Sprint(name, ": how many pages are above the one at ", at), n == 1, at != root)
	}
	same(t, name+": Len", s.Len(), len(fileOf(d)))
	same(t, name+": files", strings.Join(d.Names(), " "), "log")
	same(t, name+": loose changes", d.Loose(), 0)
}

// Words: the bytes of a log that is laid anew.
func TestCompactsBytes(t *testing.T) {
	s, d := fresh(t)
	apply(t, s, put("e", "old"))
	apply(t, s, puts(strings.Split("abcdefghi", "")...)...)
	ok(t, "Compact", s.Compact())
	first, second := rec(leaf("a", "b", "c", "d")), rec(leaf("e", "f", "g", "h", "i"))
	root := len(first + second)
	want := first + second + rec(node([]string{"e"}, 0, len(first))) + rooted(root)
	same(t, "the file", fileOf(d), want)
	same(t, "Snapshot", s.Snapshot(), root)
	same(t, "Len", s.Len(), len(want))
	laid(t, "nine keys", d, s)
	sure(t, "nine keys", d, s, model{}.with(puts(strings.Split("abcdefghi", "")...)...))
}

// Promise 7.2: a log without keys is laid anew, too: a marker alone.
func TestCompactOfNothing(t *testing.T) {
	for _, l := range [][]api.Change{nil, {}, {put("a", ""), gone("a")}, {gone("a")}} {
		s, d := fresh(t)
		if l != nil {
			ok(t, "Apply", s.Apply(l))
		}
		for range 2 {
			ok(t, "Compact", s.Compact())
			same(t, "the file", fileOf(d), rooted(-1))
			same(t, "Snapshot", s.Snapshot(), -1)
			laid(t, "nothing", d, s)
			sure(t, "nothing", d, s, nil)
		}
		apply(t, s, puts("a")...)
		sure(t, "a key behind it", d, s, model{"a": "of a"})
	}
}

// Promise 7.2: all that is there stays, what is not any more goes; twice is as once; changes go on behind it.
func TestCompact(t *testing.T) {
	for _, n := range []int{1, 8, 9, 20, 72, 73, 100, 500} {
		s, d := fresh(t)
		m := model{}
		for i := range 2 * n {
			l := []api.Change{put(fmt.Sprintf("%04d", i*7919%n), fmt.Sprint(i)), gone(fmt.Sprintf("%04d", i*31%(2*n)))}
			apply(t, s, l...)
			m = m.with(l...)
		}
		apply(t, s, put("last", ""))
		m["last"] = ""
		name := fmt.Sprint(n, " keys")
		length := s.Len()
		for range 2 {
			ok(t, "Compact", s.Compact())
			laid(t, name, d, s)
			sure(t, name, d, s, m)
			for key, want := range m {
				value, e := s.At(s.Snapshot(), key)
				same(t, name+": At's error", e, api.OK)
				same(t, name+": At", value, want)
			}
		}
		same(t, name+": it is shorter", s.Len() < length, true)
		file := fileOf(d)
		ok(t, "Compact", opened(t, d).Compact())
		same(t, name+": laid anew again, opened", fileOf(d) == file, true)
		s = opened(t, d)
		earlier := s.Snapshot()
		apply(t, s, put("0000", "new"), gone("0001"), gone("last"))
		sure(t, name+", and changes", d, s, m.with(put("0000", "new"), gone("0001"), gone("last")))
		_, e := s.At(earlier, "last")
		same(t, name+": an earlier place behind it", e, api.OK)
	}
}

// Promise 7.2: it needs room for both files; without it nothing is changed.
func TestCompactWithoutRoom(t *testing.T) {
	m := model{}.with(puts(numbers(100, 40)...)...)
	s, d := filled(t, m)
	c := d.Clone()
	ok(t, "Compact", opened(t, c).Compact())
	file, root, need := fileOf(d), s.Snapshot(), d.Used()+c.Used()
	for _, room := range []int{0, 1, c.Used(), d.Used(), need - 1} {
		d.Room(room)
		same(t, "Compact", s.Compact(), api.ErrFull)
		same(t, "the file", fileOf(d) == file, true)
		same(t, "the root", s.Snapshot(), root)
		sure(t, "no room", d, s, m)
	}
	d.Room(need)
	ok(t, "Compact", s.Compact())
	laid(t, "room", d, s)
	same(t, "the file", fileOf(d) == fileOf(c), true)
	sure(t, "room", d, s, m)
}

// Rule R1: a log that no store laid, in which a page is a kid of several, is laid anew with it once.
func TestCompactOfSharedPages(t *testing.T) {
	empty := rec("\x01\x00")
	file := empty
	var places []int
	add := func(s string) {
		places = append(places, len(file))
		file += rec(s)
	}
	add(node([]string{"b"}, 0, 0))
	add(node([]string{"m"}, 0, 0))
	add(leaf("k"))
	add(node([]string{"k", "l", "m"}, places[0], places[2], 0, 0))
	d := with(t, "")
	ok(t, "Write", d.Write("log", file+rooted(places[3])))
	ok(t, "Sync", d.Sync())
	s := opened(t, d)
	ok(t, "Compact", s.Compact())
	records := frames(t, fileOf(d))
	same(t, "records and a marker", len(records), 5)
	same(t, "the marker", records[4].text, count(records[3].at+1))
	has(t, "what it has", s, model{"k": "of k"})
	reopened(t, "what it has", d, model{"k": "of k"})
}

// grow puts a value of a key, so that the log has so many bytes then, unless it is laid anew.
func grow(t *testing.T, s *Store, bytes int) {
	t.Helper()
	one := len(rec(leafOf(put("k", "")))) + len(rooted(0))
	for s.Len()+one+api.MaxValue < bytes {
		ahead := s.Len()
		apply(t, s, put("k", strings.Repeat("x", min(api.MaxValue, bytes-s.Len()-2*one))))
		if s.Len() <= ahead {
			t.Fatalf("the log was laid anew at more than %d bytes, ahead of %d", ahead, bytes)
		}
	}
	rest := bytes - s.Len() - one
	if rest < 0 || rest > api.MaxValue {
		t.Fatalf("the log can't grow from %d to %d", s.Len(), bytes)
	}
	ok(t, "Apply", s.Apply([]api.Change{put("k", strings.Repeat("x", rest))}))
}

// lone is the bytes of a log laid anew whose one key has such a value.
func lone(s *Store) int {
	value, _ := s.Get("k")
	return len(rec(leafOf(put("k", value)))) + len(rooted(0))
}

// Promise 7.1: a log of 65535 bytes stays, one of 65536 is laid anew, if it was short when it was opened.
func TestLaidAnewByItself(t *testing.T) {
	for _, began := range []int{0, 40, 10000, 32767, 32768} {
		for _, bytes := range []int{60000, 65535, 65536, 65537, 70000} {
			s, d := fresh(t)
			if began > 0 {
				grow(t, s, began)
				s = opened(t, d)
			}
			name := fmt.Sprint(bytes, " bytes, ", began, " when opened")
			if bytes < 65536 {
				grow(t, s, bytes)
				same(t, name, s.Len(), bytes)
				if bytes < 65535 {
					grow(t, s, 65535)
				}
				same(t, name+", one fewer than are asked for", s.Len(), 65535)
				ok(t, "Apply of nothing", s.Apply(nil))
			} else {
				grow(t, s, 65535-100)
				grow(t, s, bytes)
			}
			same(t, name+", laid anew", s.Len(), lone(s))
			laid(t, name, d, s)
			value, e := s.Get("k")
			ok(t, "Get", e)
			sure(t, name, d, s, model{"k": value})
		}
	}
}

// Promise 7.1: a log is laid anew when it has twice as many bytes as when it was opened.
func TestTwiceAsWhenItWasOpened(t *testing.T) {
	for _, began := range []int{32768, 32769, 33000, 65535} {
		for less := range 3 {
			s, d := fresh(t)
			grow(t, s, began)
			s = opened(t, d)
			grow(t, s, 2*began-less)
			name := fmt.Sprint(2*began-less, " bytes, ", began, " when opened")
			if less == 0 {
				same(t, name, s.Len(), lone(s))
				laid(t, name, d, s)
				continue
			}
			same(t, name, s.Len(), 2*began-less)
			ok(t, "Apply of nothing", s.Apply(nil))
			same(t, name+", and a marker", s.Len(), lone(s))
		}
	}
	s, d := fresh(t)
	grow(t, s, 65535)
	s = opened(t, d) // so that it may have more without being laid anew
	grow(t, s, 100000)
	same(t, "opened once", s.Len(), 100000)
	s = opened(t, d)
	grow(t, s, 199999)
	same(t, "opened twice", s.Len(), 199999)
	grow(t, s, 200100)
	same(t, "opened twice", s.Len(), lone(s))
}

// Promise 7.1: a log is laid anew when it has twice as many bytes as when it was laid anew last, by itself or by Compact.
func TestTwiceAsWhenItWasLaidAnew(t *testing.T) {
	for _, asked := range []bool{false, true} {
		s, d := fresh(t)
		for i := range 6 {
			apply(t, s, put(fmt.Sprint("big", i), longestValue)) // the last one makes it long enough
		}
		if asked {
			ok(t, "Apply of nothing", s.Apply(nil))
			ok(t, "Compact", s.Compact())
		}
		laid(t, "laid anew", d, s)
		began := s.Len()
		same(t, "it has more than half of 65536 bytes", began > 32768 && began < 65536, true)
		ahead, largest := s.Len(), 0
		for s.Len() >= ahead && largest < 3*began {
			ahead = s.Len()
			largest = max(largest, ahead)
			ok(t, "Apply of nothing", s.Apply(nil))
		}
		marker := len(rooted(0))
		same(t, "the most that it had", largest, began+(began-1)/marker*marker)
		same(t, "laid anew again", s.Len(), began)
		laid(t, "laid anew again", d, s)
	}
}

// Promise 7.1: without room the log is not laid anew: the changes are done, nothing is told of it, and it is laid anew when there is room.
func TestLaidAnewWithoutRoom(t *testing.T) {
	s, d := fresh(t)
	grow(t, s, 65500)
	one := len(rec(leafOf(put("k", "y")))) + len(rooted(0)) // of the change, and of the log anew
	for range 5 {
		ahead := s.Len()
		d.Room(ahead + 2*one - 1)
		apply(t, s, put("k", "y"))
		same(t, "Len", s.Len(), ahead+one)
		sure(t, "no room", d, s, model{"k": "y"})
	}
	same(t, "it is long enough", s.Len() >= 65536, true)
	root, length := s.Snapshot(), s.Len()
	d.Room(length + 2*len(rooted(-1)) - 1)
	apply(t, s, gone("k"))
	same(t, "Len", s.Len(), length+len(rooted(-1)))
	value, e := s.At(root, "k")
	same(t, "At", value, "y")
	same(t, "At", e, api.OK)
	sure(t, "no room", d, s, nil)
	same(t, "no room for the changes", s.Apply(puts("k")), api.ErrFull)
	sure(t, "no room for the changes", d, s, nil)
	same(t, "Len", s.Len(), length+len(rooted(-1)))
	d.Room(s.Len() + 2*len(rooted(-1)))
	ok(t, "Apply of nothing", s.Apply(nil))
	same(t, "just enough room", fileOf(d), rooted(-1))
	laid(t, "just enough room", d, s)
	apply(t, s, puts("k")...)
	sure(t, "room", d, s, model{"k": "of k"})
}

// Promise 7.1: another error by which the log is not laid anew is told; the changes are done then.
func TestLaidAnewWithAnError(t *testing.T) {
	for _, move := range []int{0, 1} {
		s, d := fresh(t)
		grow(t, s, 65535)
		d.Plan([]api.Fall{{At: d.Changes() + 1 + move}})
		same(t, "Apply", s.Apply([]api.Change{put("a", "1"), gone("k")}), api.ErrDead)
		has(t, "without power", s, model{"a": "1"})
		reopened(t, "with power", d, model{"a": "1"})
	}
	padding := rec(strings.Repeat("x", 40000))
	first := padding + rec("no page")
	file := first + rec(leaf("k"))
	root := len(file)
	d := with(t, file+rec(node([]string{"k"}, len(padding), len(first)))+rooted(root))
	s := opened(t, d)
	began := s.Len()
	for s.Len() < 2*began-9000 {
		ok(t, "Apply", s.Apply([]api.Change{put("k", longestValue)}))
	}
	var e api.Errno
	n := 0
	for ; e == api.OK && n < 100; n++ {
		e = s.Apply([]api.Change{put("k", fmt.Sprint(n, longestValue[9:]))})
	}
	same(t, "Apply of a log that can't be laid anew", e, api.ErrForm)
	same(t, "Len", s.Len() >= 2*began, true)
	for range 2 {
		value, e := s.Get("k")
		ok(t, "Get", e)
		same(t, "the change is done", value, fmt.Sprint(n-1, longestValue[9:]))
		s = opened(t, d)
	}
}

// Rule R4: the same calls lay the same bytes.
func TestTheSameCalls(t *testing.T) {
	var files []string
	for range 3 {
		s, d := fresh(t)
		r := rand.New(rand.NewSource(7))
		for i := range 400 {
			var l []api.Change
			for range r.Intn(5) {
				l = append(l, put(fmt.Sprint(r.Intn(200)), strings.Repeat("v", r.Intn(300))), gone(fmt.Sprint(r.Intn(200))))
			}
			ok(t, "Apply", s.Apply(l))
			if i%150 == 149 {
				ok(t, "Compact", s.Compact())
			}
		}
		files = append(files, fileOf(d))
	}
	same(t, "the files", files[0] == files[1] && files[0] == files[2], true)
}
