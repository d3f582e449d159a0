package wire

import (
	"encoding/binary"
	"hash/adler32"
	"math"
	"math/rand"
	"strings"
	"testing"

	"cupel/api"
)

// text is n bytes of all kinds, the same ones each time.
func text(n int) string {
	b := make([]byte, n)
	for i := range b {
		b[i] = byte(i*7 + i/256*13 + 1)
	}
	return string(b)
}

// count is a count's four bytes, by the library.
func count(n uint32) string {
	return string(binary.LittleEndian.AppendUint32(nil, n))
}

// frame is a frame, by the library.
func frame(s string) string {
	body := count(uint32(len(s))) + s
	return body + count(adler32.Checksum([]byte(body)))
}

// state is all that can be seen of a reader.
type state struct {
	err      api.Errno
	at, left int
}

func stateOf(r *Reader) state { return state{r.Err(), r.At(), r.Left()} }

// expect holds what a reader shows against what it must.
func expect(t *testing.T, name string, r *Reader, want state) {
	t.Helper()
	if got := stateOf(r); got != want {
		t.Errorf("%s: the reader is at %+v, not %+v", name, got, want)
	}
}

// same holds two comparable answers against each other.
func same[T comparable](t *testing.T, name string, got, want T) {
	t.Helper()
	if got != want {
		t.Errorf("%s: %#v, not %#v", name, got, want)
	}
}

// zeros goes through all calls of a reader that take something: all answer zero values.
func zeros(t *testing.T, name string, r *Reader) {
	t.Helper()
	for _, n := range []int{-1, 0, 1, 9} {
		same(t, name+": Bytes", r.Bytes(n), "")
		same(t, name+": Number", r.Number(n), 0)
		same(t, name+": Count", r.Count(n), 0)
		same(t, name+": Text", r.Text(n), "")
	}
	same(t, name+": Hash", r.Hash(), "")
	same(t, name+": Bool", r.Bool(), false)
	same(t, name+": Left", r.Left(), 0)
}

// ended tells that a reader has ended with an error, where it was, and that this stays so whatever is asked of it.
func ended(t *testing.T, name string, r *Reader, e api.Errno, at int) {
	t.Helper()
	want := state{err: e, at: at}
	expect(t, name, r, want)
	zeros(t, name, r)
	r.Fail(api.ErrDead)
	r.Fail(api.OK)
	same(t, name+": End", r.End(), e)
	expect(t, name+", asked again", r, want)
}

// Promise 2.1: checks that others have told, and by hand.
func TestAdlerOfKnownTexts(t *testing.T) {
	same(t, "of nothing", Adler(""), 1)
	same(t, "of a nought", Adler("\x00"), 0x00010001)
	same(t, "of two noughts", Adler("\x00\x00"), 0x00020001)
	same(t, "of a", Adler("a"), 0x00620062)
	same(t, "of abc", Adler("abc"), 0x024d0127)
	same(t, "of 255", Adler("\xff"), 0x01000100)
	same(t, "of Wikipedia", Adler("Wikipedia"), 0x11e60398)
}

// Promise 2.1: texts whose sums come to the modulus, and over it, and over what 32 bits hold.
func TestAdlerOfLongTexts(t *testing.T) {
	lengths := []int{255, 256, 257, 258, 5550, 5551, 5552, 5553, 5554, 11103, 11104, 11105, 65520, 65521, 65522, 1 << 20}
	for n := range 400 {
		lengths = append(lengths, n)
	}
	for _, n := range lengths {
		for _, s := range []string{text(n), strings.Repeat("\xff", n), strings.Repeat("\x00", n)} {
			same(t, "check", Adler(s), adler32.Checksum([]byte(s)))
		}
	}
}

// Promise 2.1: the first sum exactly at the modulus, one below it, and one above it.
func TestAdlerAtTheModulus(t *testing.T) {
	full := strings.Repeat("\xff", 256) // 65280, and 1: 240 below the modulus
	for _, last := range []byte{239, 240, 241} {
		s := full + string([]byte{last}) + "\x05"
		same(t, "check", Adler(s), adler32.Checksum([]byte(s)))
		same(t, "first sum", Adler(s[:257])&0xffff, uint32(65281+int(last))%65521)
	}
}

// Promise 2.1, and the chapter's example.
func TestNumber(t *testing.T) {
	const n = 0x8877665544332211
	all := "\x11\x22\x33\x44\x55\x66\x77\x88"
	for bytes := range 9 {
		same(t, "Number", Number(n, bytes), all[:bytes])
	}
	same(t, "the example", Number(258, 2), "\x02\x01")
	same(t, "1 of 258", Number(258, 1), "\x02")
	same(t, "3 of 258", Number(258, 3), "\x02\x01\x00")
	same(t, "nought", Number(0, 8), strings.Repeat("\x00", 8))
	same(t, "the greatest", Number(math.MaxUint64, 8), strings.Repeat("\xff", 8))
}

// Promise 2.1: bytes below 0 and above 8.
func TestNumberOfOtherSizes(t *testing.T) {
	for _, bytes := range []int{-1, -8, math.MinInt} {
		same(t, "below 0", Number(math.MaxUint64, bytes), "")
	}
	for _, bytes := range []int{9, 16, math.MaxInt} {
		same(t, "above 8", Number(258, bytes), "\x02\x01\x00\x00\x00\x00\x00\x00")
	}
}

// Promise 2.1: what a frame is.
func TestFrame(t *testing.T) {
	same(t, "of nothing", Frame(""), "\x00\x00\x00\x00\x01\x00\x04\x00")
	same(t, "of a", Frame("a"), "\x01\x00\x00\x00a\x63\x00\x6b\x00")
	for _, n := range []int{0, 1, 2, 255, 256, 257, 5547, 5548, 5549, 65535, 65536, 70000} {
		s := text(n)
		if Frame(s) != frame(s) {
			t.Errorf("the frame of %d bytes is another one", n)
		}
	}
}

// Promises 2.1 and 2.4: frames at all places of texts with others ahead of them and behind them.
func TestUnframe(t *testing.T) {
	for _, n := range []int{0, 1, 2, 255, 256, 70000} {
		s := text(n)
		for _, ahead := range []string{"", "x", Frame("other")} {
			for _, behind := range []string{"", "\xff", Frame("other")} {
				all := ahead + Frame(s) + behind
				got, at, e := Unframe(all, len(ahead))
				if got != s || at != len(ahead)+n+8 || e != api.OK {
					t.Errorf("%d bytes at %d of %d: %d bytes, %d, %d", n, len(ahead), len(all), len(got), at, e)
				}
			}
		}
	}
}

// Promise 2.1: frames one behind the other are gone through by the places that are answered.
func TestUnframeOneByOne(t *testing.T) {
	texts := []string{"", "a", "", "bc", text(300)}
	all := ""
	for _, s := range texts {
		all += Frame(s)
	}
	at := 0
	for i, s := range texts {
		got, next, e := Unframe(all, at)
		if got != s || e != api.OK {
			t.Fatalf("text %d: %q, %d", i, got, e)
		}
		at = next
	}
	same(t, "the end", at, len(all))
	refused(t, "at the end", all, at, api.ErrCut)
}

// refused tells that no frame is taken, and that nothing is told beside the error.
func refused(t *testing.T, name, s string, at int, want api.Errno) {
	t.Helper()
	got, next, e := Unframe(s, at)
	if got != "" || next != 0 || e != want {
		t.Errorf("%s: %q, %d, %d; not error %d", name, got, next, e, want)
	}
}

// Promise 2.1: places outside of the bytes, and the last one inside.
func TestUnframeOutside(t *testing.T) {
	for _, s := range []string{"", "a", Frame("abc")} {
		for _, at := range []int{-1, -4, math.MinInt, len(s) + 1, len(s) + 8, math.MaxInt} {
			refused(t, "outside", s, at, api.ErrArg)
		}
		refused(t, "at the end", s, len(s), api.ErrCut)
	}
}

// Promise 2.1: a frame cut off at each of its bytes.
func TestUnframeCutOff(t *testing.T) {
	for _, s := range []string{"", "a", "abcde", "\xff\xff\xff\xff", text(300)} {
		whole := Frame(s)
		for n := range len(whole) {
			refused(t, "cut off", whole[:n], 0, api.ErrCut)
			refused(t, "cut off, at a place", "xyz"+whole[:n], 3, api.ErrCut)
		}
	}
}

// Promise 2.1: each other byte, at each place behind the count, breaks the check.
func TestUnframeOfOtherBytes(t *testing.T) {
	for _, s := range []string{"", "a", "abc"} {
		whole := Frame(s)
		for i := 4; i < len(whole); i++ {
			for change := 1; change < 256; change++ {
				b := []byte(whole)
				b[i] ^= byte(change)
				refused(t, "another byte", string(b), 0, api.ErrForm)
			}
		}
	}
}

// Promise 2.1: another count is too great, or cuts the frame off, or breaks the check.
func TestUnframeOfOtherCounts(t *testing.T) {
	whole := Frame("abcdefgh")
	for n := uint32(0); n < 8; n++ {
		refused(t, "a smaller count", count(n)+whole[4:], 0, api.ErrForm)
	}
	for n := uint32(9); n < 20; n++ {
		refused(t, "a greater count", count(n)+whole[4:], 0, api.ErrCut)
		refused(t, "a greater count, and bytes for it", count(n)+whole[4:]+text(20), 0, api.ErrForm)
	}
}

// Promise 2.1: the check holds the count, too.
func TestUnframeWithTheCheckOfTheTextAlone(t *testing.T) {
	s := "abc"
	alone := count(3) + s + count(adler32.Checksum([]byte(s)))
	refused(t, "a check of the text alone", alone, 0, api.ErrForm)
	good := Frame(s)
	turned := good[:7] + string([]byte{good[10], good[9], good[8], good[7]})
	refused(t, "a check with its highest byte first", turned, 0, api.ErrForm)
}

// Promise 2.1: counts about 2^31 - 1; above it ErrMany comes ahead of ErrCut.
func TestUnframeOfGreatCounts(t *testing.T) {
	for _, behind := range []string{"", "abc", text(100)} {
		refused(t, "2^31 - 1", count(1<<31-1)+behind, 0, api.ErrCut)
		refused(t, "2^31", count(1<<31)+behind, 0, api.ErrMany)
		refused(t, "2^32 - 1", count(1<<32-1)+behind, 0, api.ErrMany)
		refused(t, "2^31, at a place", "xy"+count(1<<31)+behind, 2, api.ErrMany)
	}
	refused(t, "three bytes of a count", "\xff\xff\xff", 0, api.ErrCut)
	refused(t, "outside, and too great", count(1<<31), 5, api.ErrArg)
}

// Promise 2.2: bytes from the front, and what is left.
func TestReaderBytes(t *testing.T) {
	r := NewReader("abcdef")
	expect(t, "at first", r, state{left: 6})
	same(t, "none", r.Bytes(0), "")
	expect(t, "behind none", r, state{left: 6})
	same(t, "one", r.Bytes(1), "a")
	expect(t, "behind one", r, state{at: 1, left: 5})
	same(t, "four", r.Bytes(4), "bcde")
	same(t, "the last", r.Bytes(1), "f")
	expect(t, "at the end", r, state{at: 6})
	same(t, "none at the end", r.Bytes(0), "")
	same(t, "End", r.End(), api.OK)
	expect(t, "behind End", r, state{at: 6})
	same(t, "one behind the end", r.Bytes(1), "")
	ended(t, "behind the end", r, api.ErrCut, 6)
}

// Promise 2.2: too few bytes; nothing of them is taken.
func TestReaderBytesCut(t *testing.T) {
	for _, n := range []int{4, 5, 1 << 40, math.MaxInt} {
		r := NewReader("abcdef")
		r.Bytes(3)
		same(t, "too many", r.Bytes(n), "")
		ended(t, "too many", r, api.ErrCut, 3)
	}
	r := NewReader("")
	same(t, "of nothing", r.Bytes(1), "")
	ended(t, "of nothing", r, api.ErrCut, 0)
}

// Promise 2.2: a number of bytes below 0, though there would be none to take.
func TestReaderBytesBelowZero(t *testing.T) {
	for _, n := range []int{-1, -4, math.MinInt} {
		for _, s := range []string{"", "abcdef"} {
			r := NewReader(s)
			same(t, "below 0", r.Bytes(n), "")
			ended(t, "below 0", r, api.ErrArg, 0)
		}
	}
}

// Promise 2.2: numbers of 0 to 8 bytes, the lowest first.
func TestReaderNumber(t *testing.T) {
	all := "\x11\x22\x33\x44\x55\x66\x77\x88\x99"
	wants := []uint64{0, 0x11, 0x2211, 0x332211, 0x44332211, 0x5544332211, 0x665544332211, 0x77665544332211, 0x8877665544332211}
	for bytes, want := range wants {
		r := NewReader(all)
		same(t, "Number", r.Number(bytes), want)
		expect(t, "Number", r, state{at: bytes, left: 9 - bytes})
	}
	r := NewReader(strings.Repeat("\xff", 8))
	same(t, "the greatest", r.Number(8), math.MaxUint64)
	same(t, "of no bytes", r.Number(0), 0)
	same(t, "End", r.End(), api.OK)
}

// Promise 2.2: numbers that are cut off, and of bytes that may not be; ErrArg comes ahead of ErrCut.
func TestReaderNumberRefused(t *testing.T) {
	for bytes := 1; bytes <= 8; bytes++ {
		for have := range bytes {
			r := NewReader("xy" + text(have))
			r.Bytes(2)
			same(t, "cut off", r.Number(bytes), 0)
			ended(t, "cut off", r, api.ErrCut, 2)
		}
	}
	for _, bytes := range []int{-1, -8, math.MinInt, 9, 16, math.MaxInt} {
		for _, s := range []string{"", text(20)} {
			r := NewReader(s)
			same(t, "of other bytes", r.Number(bytes), 0)
			ended(t, "of other bytes", r, api.ErrArg, 0)
		}
	}
}

// Promise 2.2: counts that are their most, and below it.
func TestReaderCount(t *testing.T) {
	cases := []struct {
		n    uint32
		most int
	}{{0, 0}, {0, 1}, {1, 1}, {5, 5}, {5, 6}, {258, 258}, {1<<31 - 1, 1<<31 - 1}, {1 << 31, 1 << 31}, {1<<32 - 1, 1<<32 - 1}, {1<<32 - 1, math.MaxInt}}
	for _, c := range cases {
		r := NewReader(count(c.n) + "x")
		same(t, "Count", r.Count(c.most), int(c.n))
		expect(t, "Count", r, state{at: 4, left: 1})
	}
}

// Promise 2.2: counts above their most, and a most below 0; the four bytes are taken all the same.
func TestReaderCountMany(t *testing.T) {
	cases := []struct {
		n    uint32
		most int
	}{{1, 0}, {6, 5}, {1 << 31, 1<<31 - 1}, {1<<32 - 1, 1<<32 - 2}, {0, -1}, {5, -1}, {1<<32 - 1, -1}, {0, math.MinInt}, {1<<32 - 1, math.MinInt}}
	for _, c := range cases {
		for _, behind := range []string{"", text(20)} {
			r := NewReader("x" + count(c.n) + behind)
			r.Bytes(1)
			same(t, "Count", r.Count(c.most), 0)
			ended(t, "Count", r, api.ErrMany, 5)
		}
	}
}

// Promise 2.2: a count that is cut off is no count that could be above its most.
func TestReaderCountCut(t *testing.T) {
	for have := range 4 {
		for _, most := range []int{-1, 0, 5, math.MaxInt} {
			r := NewReader("x" + count(1<<32 - 1)[:have])
			r.Bytes(1)
			same(t, "cut off", r.Count(most), 0)
			ended(t, "cut off", r, api.ErrCut, 1)
		}
	}
}

// Promise 2.2: texts of their most bytes, and of fewer.
func TestReaderText(t *testing.T) {
	for _, n := range []int{0, 1, 2, 255, 256, 70000} {
		for _, most := range []int{n, n + 1, math.MaxInt} {
			r := NewReader(count(uint32(n)) + text(n) + "x")
			if got := r.Text(most); got != text(n) {
				t.Errorf("a text of %d bytes, at most %d: %d bytes", n, most, len(got))
			}
			expect(t, "Text", r, state{at: n + 4, left: 1})
		}
	}
}

// Promise 2.2: texts above their most, which is told ahead of that they are cut off; and texts that are cut off.
func TestReaderTextRefused(t *testing.T) {
	for _, most := range []int{4, 0, -1, math.MinInt} {
		for have := range 6 {
			r := NewReader(count(5) + text(have))
			same(t, "above its most", r.Text(most), "")
			ended(t, "above its most", r, api.ErrMany, 4)
		}
	}
	for have := range 5 {
		r := NewReader(count(5) + text(have))
		same(t, "cut off", r.Text(5), "")
		ended(t, "cut off", r, api.ErrCut, 4)
	}
	for have := range 4 {
		r := NewReader(count(5)[:have])
		same(t, "a count cut off", r.Text(5), "")
		ended(t, "a count cut off", r, api.ErrCut, 0)
	}
}

// Promise 2.2: digests.
func TestReaderHash(t *testing.T) {
	r := NewReader(text(65))
	same(t, "the first", r.Hash(), text(65)[:32])
	same(t, "the second", r.Hash(), text(65)[32:64])
	expect(t, "behind both", r, state{at: 64, left: 1})
	for _, have := range []int{0, 1, 31} {
		r := NewReader(text(have))
		same(t, "cut off", r.Hash(), "")
		ended(t, "cut off", r, api.ErrCut, 0)
	}
}

// Promise 2.2: yes and no, and all other bytes, which are taken.
func TestReaderBool(t *testing.T) {
	r := NewReader("\x00\x01\x00")
	same(t, "0", r.Bool(), false)
	same(t, "1", r.Bool(), true)
	expect(t, "behind two", r, state{at: 2, left: 1})
	for b := 2; b < 256; b++ {
		r := NewReader(string([]byte{1, byte(b), 1}))
		r.Bool()
		same(t, "another byte", r.Bool(), false)
		ended(t, "another byte", r, api.ErrForm, 2)
	}
	r = NewReader("")
	same(t, "of nothing", r.Bool(), false)
	ended(t, "of nothing", r, api.ErrCut, 0)
}

// Promise 2.2: any error ends a reader; none does not.
func TestReaderFail(t *testing.T) {
	r := NewReader("abc")
	r.Bytes(1)
	r.Fail(api.OK)
	expect(t, "no error", r, state{at: 1, left: 2})
	for _, e := range []api.Errno{api.ErrArg, api.ErrNone, api.ErrDead, api.ErrText, 12345, -1} {
		r := NewReader("abc")
		r.Bytes(1)
		r.Fail(e)
		ended(t, "Fail", r, e, 1)
	}
}

// Promise 2.2: the first error is the one that stays.
func TestReaderKeepsItsFirstError(t *testing.T) {
	r := NewReader("\x02")
	r.Bool()
	r.Bytes(-1)
	r.Number(9)
	r.Bytes(1)
	r.Count(-1)
	r.Fail(api.ErrNone)
	ended(t, "ErrForm first", r, api.ErrForm, 1)
	r = NewReader("")
	r.Bytes(1)
	r.Bytes(-1)
	ended(t, "ErrCut first", r, api.ErrCut, 0)
	r = NewReader("abc")
	same(t, "ErrMore first", r.End(), api.ErrMore)
	r.Fail(api.ErrArg)
	ended(t, "ErrMore first", r, api.ErrMore, 0)
}

// Promise 2.2: the end, with bytes left and without.
func TestReaderEnd(t *testing.T) {
	same(t, "of nothing", NewReader("").End(), api.OK)
	r := NewReader("ab")
	r.Bytes(1)
	same(t, "one is left", r.End(), api.ErrMore)
	ended(t, "one is left", r, api.ErrMore, 1)
	r = NewReader("ab")
	r.Fail(api.ErrForm)
	same(t, "behind an error nothing is left", r.End(), api.ErrForm)
}

// Promise 2.2: a nil reader.
func TestNilReader(t *testing.T) {
	var r *Reader
	ended(t, "nil", r, api.ErrArg, 0)
}

// put is what a writer holds behind what is put into it.
func put(do func(w *Writer)) string {
	w := NewWriter()
	do(w)
	return w.All()
}

// Promise 2.3: each thing that is put, by its bytes.
func TestWriter(t *testing.T) {
	same(t, "nothing", put(func(w *Writer) {}), "")
	same(t, "bytes", put(func(w *Writer) { w.Bytes("a\x00\xff"); w.Bytes(""); w.Bytes("b") }), "a\x00\xffb")
	same(t, "no number", put(func(w *Writer) { w.Number(math.MaxUint64, 0) }), "")
	same(t, "a number of 1", put(func(w *Writer) { w.Number(258, 1) }), "\x02")
	same(t, "a number of 2", put(func(w *Writer) { w.Number(258, 2) }), "\x02\x01")
	same(t, "a number of 8", put(func(w *Writer) { w.Number(0x8877665544332211, 8) }), "\x11\x22\x33\x44\x55\x66\x77\x88")
	same(t, "a number of -1", put(func(w *Writer) { w.Number(258, -1) }), "")
	same(t, "a number of 9", put(func(w *Writer) { w.Number(258, 9) }), "\x02\x01\x00\x00\x00\x00\x00\x00")
	same(t, "no text", put(func(w *Writer) { w.Text("") }), "\x00\x00\x00\x00")
	same(t, "a text", put(func(w *Writer) { w.Text("abc") }), "\x03\x00\x00\x00abc")
	same(t, "a long text", put(func(w *Writer) { w.Text(text(70000)) }), count(70000)+text(70000))
	same(t, "yes and no", put(func(w *Writer) { w.Bool(true); w.Bool(false) }), "\x01\x00")
}

// Promise 2.3: counts below 0, and above what four bytes hold.
func TestWriterCount(t *testing.T) {
	cases := []struct {
		n    int
		want uint32
	}{{0, 0}, {1, 1}, {258, 258}, {-1, 0}, {math.MinInt, 0}, {1<<31 - 1, 1<<31 - 1}, {1<<32 - 1, 1<<32 - 1}, {1 << 32, 0}, {1<<32 + 5, 5}, {math.MaxInt, 1<<32 - 1}}
	for _, c := range cases {
		same(t, "Count", put(func(w *Writer) { w.Count(c.n) }), count(c.want))
	}
}

// Promise 2.3: digests that are shorter or longer than they should be.
func TestWriterHash(t *testing.T) {
	for _, n := range []int{0, 1, 31, 32, 33, 64, 1000} {
		want := text(n)
		want += strings.Repeat("\x00", max(32-n, 0))
		same(t, "Hash", put(func(w *Writer) { w.Hash(text(n)) }), want[:32])
	}
	same(t, "two digests", put(func(w *Writer) { w.Hash(text(40)); w.Hash("") }), text(40)[:32]+strings.Repeat("\x00", 32))
}

// Promise 2.3: how much was put, and that what was answered does not change when more is.
func TestWriterGrows(t *testing.T) {
	w := NewWriter()
	same(t, "nothing", w.Len(), 0)
	want := ""
	var was []string
	for i := range 50 {
		w.Number(uint64(i), i%9)
		want += Number(uint64(i), i%9)
		same(t, "Len", w.Len(), len(want))
		was = append(was, w.All())
	}
	for _, s := range was {
		same(t, "what was answered", s, want[:len(s)])
	}
	same(t, "All", w.All(), want)
}

// Promise 2.3: a nil writer.
func TestNilWriter(t *testing.T) {
	var w *Writer
	w.Bytes("a")
	w.Number(1, 8)
	w.Count(1)
	w.Text("a")
	w.Hash("a")
	w.Bool(true)
	same(t, "Len", w.Len(), 0)
	same(t, "All", w.All(), "")
}

// Rule R5 and promises 2.2, 2.3: two readers and two writers know nothing of each other.
func TestApart(t *testing.T) {
	s := "abcdef"
	a, b := NewReader(s), NewReader(s)
	a.Bytes(2)
	b.Fail(api.ErrForm)
	same(t, "the first reader", a.Bytes(2), "cd")
	expect(t, "the first reader", a, state{at: 4, left: 2})
	v, w := NewWriter(), NewWriter()
	v.Bytes("a")
	w.Bytes("bc")
	same(t, "the first writer", v.All(), "a")
	same(t, "the second writer", w.All(), "bc")
}

// thing is something that is put, and how it is taken again.
type thing struct {
	put  func(w *Writer)
	take func(r *Reader) bool
}

// chance is a thing of one kind, its content by chance.
func chance(rnd *rand.Rand) thing {
	n, size := rnd.Uint64()>>rnd.Intn(64), rnd.Intn(9)
	s := text(300)[:rnd.Intn(300)]
	switch rnd.Intn(6) {
	case 0:
		return thing{func(w *Writer) { w.Bytes(s) }, func(r *Reader) bool { return r.Bytes(len(s)) == s }}
	case 1:
		low := n
		if size < 8 {
			low = n % (1 << (8 * size))
		}
		return thing{func(w *Writer) { w.Number(n, size) }, func(r *Reader) bool { return r.Number(size) == low }}
	case 2:
		c := int(n % (1 << 32))
		return thing{func(w *Writer) { w.Count(c) }, func(r *Reader) bool { return r.Count(c) == c }}
	case 3:
		return thing{func(w *Writer) { w.Text(s) }, func(r *Reader) bool { return r.Text(len(s)) == s }}
	case 4:
		digest := (s + strings.Repeat("\x00", 32))[:32]
		return thing{func(w *Writer) { w.Hash(s) }, func(r *Reader) bool { return r.Hash() == digest }}
	}
	yes := n%2 == 1
	return thing{func(w *Writer) { w.Bool(yes) }, func(r *Reader) bool { return r.Bool() == yes }}
}

// Promise 2.4: what was put is taken again, in the same order, and to the end.
func TestWhatWasPutIsTakenAgain(t *testing.T) {
	rnd := rand.New(rand.NewSource(2))
	for round := range 300 {
		w := NewWriter()
		things := make([]thing, rnd.Intn(12))
		for i := range things {
			things[i] = chance(rnd)
			things[i].put(w)
		}
		r := NewReader(w.All())
		for i, x := range things {
			if !x.take(r) {
				t.Fatalf("round %d: thing %d is another one", round, i)
			}
		}
		same(t, "At", r.At(), w.Len())
		same(t, "End", r.End(), api.OK)
		text, at, e := Unframe(Frame(w.All()), 0)
		if text != w.All() || at != w.Len()+8 || e != api.OK {
			t.Fatalf("round %d: the frame is another one", round)
		}
	}
}

// Rule R1: any bytes are taken or refused by any calls; a reader is never outside of its bytes.
func FuzzReader(f *testing.F) {
	f.Add("", "")
	f.Add(frame("abc"), "\x00\x04\x01\x04\x02\x03\x03\x7f")
	f.Fuzz(func(t *testing.T, s, calls string) {
		r := NewReader(s)
		for i := 0; i+1 < len(calls); i += 2 {
			ask(r, calls[i], int(int8(calls[i+1])))
			was := r.Err()
			if was != api.OK && r.Left() != 0 || was == api.OK && r.At()+r.Left() != len(s) || r.At() > len(s) {
				t.Fatalf("at %d, %d left of %d, error %d", r.At(), r.Left(), len(s), was)
			}
		}
		for at := -1; at <= len(s)+1; at++ {
			if text, next, e := Unframe(s, at); e == api.OK && s[at:next] != frame(text) || e != api.OK && (text != "" || next != 0) {
				t.Fatalf("at %d: %q, %d, %d", at, text, next, e)
			}
		}
	})
}

// ask is one call of a reader.
func ask(r *Reader, call byte, n int) {
	switch call % 6 {
	case 0:
		r.Bytes(n)
	case 1:
		r.Number(n)
	case 2:
		r.Count(n)
	case 3:
		r.Text(n)
	case 4:
		r.Hash()
	case 5:
		r.Bool()
	}
}
