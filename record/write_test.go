package record_test

import (
	"bytes"
	"encoding/hex"
	"math"
	"math/rand"
	"testing"

	"drawbridge/api"
	"drawbridge/record"
	"drawbridge/suite"
)

// lengths of what is written, with the edges between one record and the next.
func lengths() []int {
	return []int{0, 1, 2, 255, 256, 16128, 16129, 16130, 16383, 16384, 16385, 32767, 32768, 32769, 49152, 49153, 65535, 65536}
}

// pieces are the texts of the records that bytes are written as.
func pieces(b []byte) (l [][]byte) {
	for len(b) > api.MaxPlain {
		l = append(l, b[:api.MaxPlain])
		b = b[api.MaxPlain:]
	}
	return append(l, b)
}

func TestWritesPlain(t *testing.T) {
	r := rand.New(rand.NewSource(1))
	w := record.NewWriter()
	if b := writes(t, w, 22, []byte{1, 2}, 9); !bytes.Equal(b, []byte{0x16, 3, 3, 0, 2, 1, 2}) {
		t.Errorf("%x", b)
	}
	for _, n := range lengths() {
		b := random(r, n)
		for _, pad := range []int{0, 1, 255} {
			c := api.Content(20 + r.Intn(4))
			var want []byte
			for _, piece := range pieces(b) {
				want = append(want, plain(c, piece)...)
			}
			if got := writes(t, w, c, b, pad); !bytes.Equal(got, want) || w.Left() != math.MaxUint64 {
				t.Errorf("%d bytes, pad %d: %d bytes, want %d", n, pad, len(got), len(want))
			}
		}
	}
	if b := writes(t, w, 22, nil, 0); !bytes.Equal(b, []byte{22, 3, 3, 0, 0}) {
		t.Errorf("nothing: %x", b)
	}
}

// A writer does not ask of which content bytes are.
func TestWritesAnyContent(t *testing.T) {
	l := lockOf(rand.New(rand.NewSource(2)), api.SuiteChaCha)
	w, locked := record.NewWriter(), l.writer(t, 0)
	for c := range 256 {
		if b := writes(t, w, api.Content(c), []byte("ab"), 0); !bytes.Equal(b, plain(api.Content(c), []byte("ab"))) {
			t.Errorf("%d: %x", c, b)
		}
		want := l.sealed(uint64(c), inner(api.Content(c), []byte("ab"), 3))
		if b := writes(t, locked, api.Content(c), []byte("ab"), 3); !bytes.Equal(b, want) {
			t.Errorf("%d, locked: %x, want %x", c, b, want)
		}
	}
}

// TestWritesLocked: as many noughts as are asked for, in each record, but not more than there is room for.
func TestWritesLocked(t *testing.T) {
	r := rand.New(rand.NewSource(3))
	for _, s := range suites() {
		l := lockOf(r, s)
		w := l.writer(t, 0)
		var number uint64
		for _, n := range lengths() {
			for _, pad := range []int{0, 1, 254, 255} {
				b, c := random(r, n), api.Content(20+r.Intn(4))
				var want []byte
				for _, piece := range pieces(b) {
					want = append(want, l.sealed(number, inner(c, piece, min(pad, 16384-len(piece))))...)
					number++
				}
				if got := writes(t, w, c, b, pad); !bytes.Equal(got, want) || w.Left() != suite.Limit(s)-number {
					t.Fatalf("suite %x, %d bytes, pad %d: %d bytes, want %d", s, n, pad, len(got), len(want))
				}
			}
		}
	}
}

// TestToldRecords: two records of a client that RFC 8448 tells, written and read.
func TestToldRecords(t *testing.T) {
	unhex := func(s string) []byte {
		b, err := hex.DecodeString(s)
		if err != nil {
			t.Fatal(err)
		}
		return b
	}
	l := lock{api.SuiteAES128, unhex("17422dda596ed5d9acd890e3c63f5051"), [12]byte(unhex("5b78923dee08579033e523d9"))}
	data := make([]byte, 50)
	for i := range data {
		data[i] = byte(i)
	}
	first := unhex("1703030043a23f7054b62c94d0affafe8228ba55cbefacea42f914aa66bcab3f2b9819a8a5b46b395bd54a9a20441e2b62974e1f5a6292a2977014bd1e3deae63aeebb21694915e4")
	second := unhex("1703030013c9872760655666b74d7ff1153efd6db6d0b0e3")
	w, r := l.writer(t, 0), l.reader(t)
	if b := writes(t, w, api.ContentData, data, 0); !bytes.Equal(b, first) {
		t.Errorf("%x", b)
	}
	if b := writes(t, w, api.ContentAlert, []byte{1, 0}, 0); !bytes.Equal(b, second) {
		t.Errorf("%x", b)
	}
	feeds(t, r, append(first, second...))
	tells(t, r, api.ContentData, data)
	tells(t, r, api.ContentAlert, []byte{1, 0})
	waits(t, r, 0)
}

// refuses: Write answers this error and nothing else, and changes nothing.
func refuses(t *testing.T, w *record.Writer, n int, pad int, want api.Errno) {
	t.Helper()
	left := w.Left()
	if b, e := w.Write(api.ContentData, make([]byte, n), pad); len(b) != 0 || e != want || w.Left() != left {
		t.Errorf("Write of %d bytes, with %d noughts: %d bytes, %v, %d left, want %v, %d left", n, pad, len(b), e, w.Left(), want, left)
	}
}

func TestTooLong(t *testing.T) {
	r := rand.New(rand.NewSource(4))
	for _, s := range suites() {
		l := lockOf(r, s)
		// What is too long is told ahead of what there is no room for.
		full := l.writer(t, 1)
		writes(t, full, api.ContentData, nil, 0)
		for i, w := range []*record.Writer{l.writer(t, 0), full, record.NewWriter()} {
			for _, n := range []int{65537, 65538, 1 << 20} {
				for _, pad := range []int{0, 255, -1, 256} {
					refuses(t, w, n, pad, api.ErrRecordLong)
				}
			}
			for _, pad := range []int{-1, -2, -255, -256, 256, 257, 1 << 16, math.MinInt, math.MaxInt, math.MinInt32, 1 << 32} {
				refuses(t, w, 0, pad, api.ErrRecordLong)
				refuses(t, w, 9, pad, api.ErrRecordLong)
			}
			if i == 0 { // and no number was used
				if b := writes(t, w, api.ContentData, []byte("x"), 255); !bytes.Equal(b, l.sealed(0, inner(23, []byte("x"), 255))) {
					t.Errorf("suite %x: %x", s, b)
				}
			}
		}
	}
}

func TestFull(t *testing.T) {
	r := rand.New(rand.NewSource(5))
	for _, s := range suites() {
		for limit := uint64(1); limit < 7; limit++ {
			for _, n := range lengths() {
				l := lockOf(r, s)
				w := l.writer(t, limit)
				count := uint64(len(pieces(make([]byte, n))))
				for left := limit; left >= count; left -= count {
					if w.Left() != left {
						t.Fatalf("%d left, want %d", w.Left(), left)
					}
					writes(t, w, api.ContentData, make([]byte, n), 0)
				}
				number := limit - limit%count
				for range 3 {
					refuses(t, w, n, 0, api.ErrRecordFull)
				}
				for ; number < limit; number++ { // where fewer are needed, there is room still
					if b := writes(t, w, api.ContentAlert, []byte("b"), 1); !bytes.Equal(b, l.sealed(number, inner(21, []byte("b"), 1))) {
						t.Fatalf("suite %x: record %d: %x", s, number, b)
					}
				}
				refuses(t, w, 0, 0, api.ErrRecordFull)
				refuses(t, w, 65536, 255, api.ErrRecordFull)
			}
		}
	}
}

func TestLimits(t *testing.T) {
	for _, s := range suites() {
		most := suite.Limit(s)
		key := make([]byte, suite.KeyLen(s))
		for _, limit := range []uint64{0, 1, 2, 8, 23726565, 23726566, 23726567, 1<<62 - 1, 1 << 62, 1<<62 + 1, 1 << 63, math.MaxUint64} {
			w := record.NewWriter()
			if w.Left() != math.MaxUint64 {
				t.Errorf("without a key: %d", w.Left())
			}
			want := min(limit, most)
			if limit == 0 {
				want = most
			}
			if e := w.Key(s, key, [12]byte{}, limit); e != api.OK || w.Left() != want {
				t.Errorf("suite %x, limit %d: %v, %d left, want %d", s, limit, e, w.Left(), want)
			}
			writes(t, w, 23, nil, 0)
			if w.Left() != want-1 {
				t.Errorf("suite %x, limit %d: %d left behind one, want %d", s, limit, w.Left(), want-1)
			}
		}
	}
}

// TestKeys: of which suites and lengths they are; one that is refused leaves all as it was.
func TestKeys(t *testing.T) {
	r := rand.New(rand.NewSource(6))
	l := lockOf(r, api.SuiteChaCha)
	numbers := []int{0, 1, 0x1300, 0x1301, 0x1302, 0x1303, 0x1304, 0x1305, 0x0113, 0x0313, 0xffff}
	for range 50 {
		numbers = append(numbers, r.Intn(1<<16))
	}
	for _, n := range numbers {
		s := api.Suite(n)
		for length := range 70 {
			key, iv := make([]byte, length, length+64), [12]byte{7}
			is := s == api.SuiteAES128 && length == 16 || (s == api.SuiteAES256 || s == api.SuiteChaCha) && length == 32
			w, x, plainW, plainX := l.writer(t, 5), l.reader(t), record.NewWriter(), record.NewReader()
			feeds(t, x, writes(t, w, 22, []byte("a"), 0))
			tells(t, x, 22, []byte("a"))
			errs := []api.Errno{w.Key(s, key, iv, 3), plainW.Key(s, key, iv, 0), x.Key(s, key, iv), plainX.Key(s, key, iv)}
			for i, e := range errs {
				if (e == api.OK) != is || !is && e != api.ErrRecordKey {
					t.Fatalf("%d: Key(%x, %d bytes): %v", i, n, length, e)
				}
			}
			if is {
				continue
			}
			if w.Left() != 4 || plainW.Left() != math.MaxUint64 {
				t.Fatalf("%d, %d are left", w.Left(), plainW.Left())
			}
			b := writes(t, w, 23, []byte("bc"), 2)
			if !bytes.Equal(b, l.sealed(1, inner(23, []byte("bc"), 2))) {
				t.Fatalf("behind a key that was refused: %x", b)
			}
			feeds(t, x, b)
			tells(t, x, 23, []byte("bc"))
			b = writes(t, plainW, 22, []byte("d"), 2)
			feeds(t, plainX, b)
			tells(t, plainX, 22, []byte("d"))
		}
	}
	if e := record.NewWriter().Key(api.SuiteAES128, nil, [12]byte{}, 0); e != api.ErrRecordKey {
		t.Error(e)
	}
	if e := record.NewReader().Key(0, nil, [12]byte{}); e != api.ErrRecordKey {
		t.Error(e)
	}
}

// TestOtherKeys: with another key it begins at the number 0, with the limit that comes with it.
func TestOtherKeys(t *testing.T) {
	r := rand.New(rand.NewSource(7))
	w := record.NewWriter()
	writes(t, w, 22, []byte("plain"), 0)
	for turn := range 60 {
		l := lockOf(r, suites()[r.Intn(3)])
		limit := uint64(1 + r.Intn(9))
		if e := w.Key(l.s, l.key, l.iv, limit); e != api.OK || w.Left() != limit {
			t.Fatalf("turn %d: %v, %d left", turn, e, w.Left())
		}
		for number := range uint64(r.Intn(int(limit) + 1)) {
			if b := writes(t, w, 23, []byte("text"), 1); !bytes.Equal(b, l.sealed(number, inner(23, []byte("text"), 1))) || w.Left() != limit-number-1 {
				t.Fatalf("turn %d, record %d: %x, %d left", turn, number, b, w.Left())
			}
		}
	}
}
