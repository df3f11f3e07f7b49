package record_test

import (
	"bytes"
	"math"
	"math/rand"
	"testing"

	"drawbridge/api"
	"drawbridge/record"
)

func TestReadsPlain(t *testing.T) {
	r := rand.New(rand.NewSource(1))
	x := record.NewReader()
	waits(t, x, 0)
	for _, n := range []int{1, 2, 5, 100, 16383, 16384} {
		for _, c := range []api.Content{api.ContentAlert, api.ContentHandshake} {
			b := random(r, n)
			feeds(t, x, plain(c, b))
			tells(t, x, c, b)
			waits(t, x, 0)
		}
	}
	b := append(plain(22, []byte{0, 0}), plain(21, []byte{0})...)
	feeds(t, x, append(b, 22, 3))
	tells(t, x, 22, []byte{0, 0})
	tells(t, x, 21, []byte{0})
	waits(t, x, 2)
}

// Of the second and the third byte nothing is said where a record is plain.
func TestReadsAnyVersion(t *testing.T) {
	x := record.NewReader()
	for _, v := range [][2]byte{{3, 1}, {3, 3}, {0, 0}, {255, 255}} {
		b := plain(22, []byte("abc"))
		b[1], b[2] = v[0], v[1]
		feeds(t, x, b)
		tells(t, x, 22, []byte("abc"))
	}
}

// TestByteByByte: nothing is told ahead of a record's last byte.
func TestByteByByte(t *testing.T) {
	r := rand.New(rand.NewSource(2))
	for _, s := range suites() {
		l := lockOf(r, s)
		for _, c := range []struct {
			x *record.Reader
			b []byte
		}{{record.NewReader(), plain(22, []byte("text"))}, {l.reader(t), l.sealed(0, inner(22, []byte("text"), 4))}} {
			for i := range c.b {
				waits(t, c.x, i)
				feeds(t, c.x, c.b[i:i+1])
			}
			tells(t, c.x, 22, []byte("text"))
			waits(t, c.x, 0)
		}
	}
}

// kinds are readers that may be there: a plain one, and one with a key; each may skip, and may be quiet.
func kinds(t *testing.T, r *rand.Rand, skip int) (l []*record.Reader) {
	t.Helper()
	for _, quiet := range []bool{false, true} {
		l = append(l, record.NewReader(), lockOf(r, suites()[r.Intn(3)]).reader(t))
		for _, x := range l[len(l)-2:] {
			x.Quiet(quiet)
			x.Skip(skip)
		}
	}
	return l
}

// TestFirstBytes: a record's type is asked as soon as its head is there, ahead of its length.
func TestFirstBytes(t *testing.T) {
	r := rand.New(rand.NewSource(3))
	for c := range 256 {
		for _, length := range [][]byte{{0, 0}, {0, 9}, {0x40, 1}, {0x41, 1}, {255, 255}} {
			for _, x := range kinds(t, r, 1<<20) {
				b := []byte{byte(c), 3, 3}
				feeds(t, x, b)
				feeds(t, x, length[:1])
				waits(t, x, 4)
				feeds(t, x, length[1:])
				if c < 20 || c > 23 {
					dies(t, "the first byte", x, api.AlertUnexpected)
				}
			}
		}
	}
}

// TestLengths: all of them, as soon as the head is there.
func TestLengths(t *testing.T) {
	r := rand.New(rand.NewSource(4))
	key := lockOf(r, api.SuiteChaCha)
	for n := 1; n < 1<<16; n++ {
		for c := byte(20); c <= 23; c++ {
			x := record.NewReader()
			if n%2 == 0 {
				x = key.reader(t)
			}
			feeds(t, x, []byte{c, 3, 3, byte(n >> 8), byte(n)})
			if n > 16640 || n > 16384 && c != 23 {
				dies(t, "the length", x, api.AlertOverflow)
			} else if _, _, is, a := x.Next(); is || a != api.AlertNone || x.Held() != 5 {
				t.Fatalf("type %d, length %d: %v, %d, %d are held", c, n, is, a, x.Held())
			}
		}
	}
}

func TestChanges(t *testing.T) {
	r := rand.New(rand.NewSource(5))
	l := lockOf(r, api.SuiteAES128)
	text := l.sealed(0, inner(22, []byte("t"), 0))
	for _, body := range [][]byte{nil, {0}, {1}, {2}, {255}, {1, 1}, {1, 0}, {0, 1}, make([]byte, 16384)} {
		for i, x := range []*record.Reader{record.NewReader(), l.reader(t), record.NewReader(), l.reader(t), record.NewReader(), l.reader(t)} {
			x.Quiet(i >= 2)
			x.Quiet(i == 2 || i == 3) // the last word counts
			x.Skip(1 << 20)
			b := plain(20, body)
			feeds(t, x, b[:len(b)-1])
			if len(body) > 0 {
				waits(t, x, len(b)-1) // it is asked when it is whole
			}
			feeds(t, x, b[len(b)-1:])
			if !bytes.Equal(body, []byte{1}) || i != 2 && i != 3 {
				dies(t, "a change", x, api.AlertUnexpected)
				continue
			}
			waits(t, x, 0)
			for range 100 {
				feeds(t, x, b)
			}
			if i == 3 {
				feeds(t, x, text)
			} else {
				feeds(t, x, plain(22, []byte("t")))
			}
			tells(t, x, 22, []byte("t"))
			x.Quiet(false)
			feeds(t, x, b)
			dies(t, "a change that comes too late", x, api.AlertUnexpected)
		}
	}
}

// A record without bytes says nothing.
func TestPlainNothing(t *testing.T) {
	for _, c := range []api.Content{api.ContentAlert, api.ContentHandshake} {
		x := record.NewReader()
		x.Skip(9)
		x.Quiet(true)
		feeds(t, x, append(plain(22, []byte("a")), plain(c, nil)...))
		tells(t, x, 22, []byte("a"))
		dies(t, "nothing", x, api.AlertUnexpected)
	}
}

// TestPlainBehindKey: with a key only what is locked up may come, and it is asked when it is whole.
func TestPlainBehindKey(t *testing.T) {
	r := rand.New(rand.NewSource(6))
	for _, c := range []api.Content{api.ContentAlert, api.ContentHandshake} {
		for _, body := range [][]byte{nil, {1}, {1, 0}, make([]byte, 16384)} {
			x := lockOf(r, api.SuiteChaCha).reader(t)
			x.Skip(1 << 20)
			x.Quiet(true)
			b := plain(c, body)
			feeds(t, x, b[:len(b)-1])
			if len(body) > 0 {
				waits(t, x, len(b)-1)
			}
			feeds(t, x, b[len(b)-1:])
			dies(t, "plain behind a key", x, api.AlertUnexpected)
		}
	}
}

// TestSkipsPlain: data may pass ahead of a key, as much as Skip says, and no more.
func TestSkipsPlain(t *testing.T) {
	for _, c := range []struct{ may, n int }{{0, 1}, {-1, 1}, {math.MinInt, 1}, {1, 2}, {100, 101}, {16639, 16640}} {
		x := record.NewReader()
		x.Skip(c.may)
		b := plain(23, make([]byte, c.n))
		feeds(t, x, b[:len(b)-1])
		waits(t, x, len(b)-1)
		feeds(t, x, b[len(b)-1:])
		dies(t, "more than may be skipped", x, api.AlertUnexpected)
	}
	for _, c := range []struct{ may, n int }{{1, 1}, {100, 100}, {16640, 16640}, {16640, 3}, {math.MaxInt, 16640}} {
		x := record.NewReader()
		x.Skip(c.may)
		feeds(t, x, plain(23, make([]byte, c.n)))
		waits(t, x, 0)
		feeds(t, x, plain(22, []byte("told"))) // which leaves as much as it was to be skipped
		tells(t, x, 22, []byte("told"))
		if left := c.may - c.n; left < 16640 {
			feeds(t, x, plain(23, make([]byte, left+1)))
			dies(t, "more than is left", x, api.AlertUnexpected)
		}
	}
	x := record.NewReader()
	x.Skip(9)
	x.Skip(4) // the last word counts
	feeds(t, x, append(plain(23, make([]byte, 4)), plain(23, make([]byte, 1))...))
	dies(t, "behind another Skip", x, api.AlertUnexpected)
}

// A length of nought is not above what may be skipped, even if that is nothing.
func TestSkipsNothing(t *testing.T) {
	l := lockOf(rand.New(rand.NewSource(7)), api.SuiteAES256)
	none := bytes.Repeat(plain(23, nil), 3)
	for _, skip := range []int{0, -1, math.MinInt, 7} {
		x, y := record.NewReader(), l.reader(t)
		x.Skip(skip)
		y.Skip(skip)
		feeds(t, x, append(none[:len(none):len(none)], plain(22, []byte("a"))...))
		tells(t, x, 22, []byte("a"))
		feeds(t, y, append(none[:len(none):len(none)], l.sealed(0, inner(22, []byte("a"), 0))...))
		tells(t, y, 22, []byte("a"))
		feeds(t, y, none)
		waits(t, y, 0)
	}
}

// TestSkipsLocked: what can't be opened may pass till one is opened, and uses no number.
func TestSkipsLocked(t *testing.T) {
	r := rand.New(rand.NewSource(8))
	for _, s := range suites() {
		l := lockOf(r, s)
		x := l.reader(t)
		x.Skip(100)
		stray := lockOf(r, s).sealed(0, inner(23, make([]byte, 23), 0)) // 40 bytes behind its head
		feeds(t, x, append(bytes.Clone(stray), stray...))
		waits(t, x, 0)
		feeds(t, x, plain(23, make([]byte, 3)))
		waits(t, x, 0)
		feeds(t, x, l.sealed(0, inner(22, []byte("first"), 0)))
		tells(t, x, 22, []byte("first"))
		feeds(t, x, plain(23, make([]byte, 1)))
		dies(t, "behind one that was opened", x, api.AlertRecordMac)

		for _, c := range []struct{ may, n int }{{0, 1}, {-7, 1}, {39, 40}, {16639, 16640}} {
			x = l.reader(t)
			x.Skip(c.may)
			feeds(t, x, plain(23, random(r, c.n)))
			dies(t, "more than may be skipped", x, api.AlertRecordMac)
		}
		x = l.reader(t)
		x.Skip(79)
		feeds(t, x, append(bytes.Clone(stray), stray...))
		dies(t, "the second one", x, api.AlertRecordMac)
	}
}

// TestSkipStays: another key leaves what may be skipped and what is held as they were, and whether it is quiet.
func TestSkipStays(t *testing.T) {
	r := rand.New(rand.NewSource(9))
	l := lockOf(r, api.SuiteAES128)
	x := record.NewReader()
	x.Skip(50)
	x.Quiet(true)
	feeds(t, x, plain(23, make([]byte, 20)))
	waits(t, x, 0)
	b := append(plain(23, random(r, 30)), plain(20, []byte{1})...)
	b = append(b, l.sealed(0, inner(22, []byte("a"), 0))...)
	feeds(t, x, b)
	if e := x.Key(l.s, l.key, l.iv); e != api.OK || x.Held() != len(b) {
		t.Fatalf("%v, %d are held", e, x.Held())
	}
	tells(t, x, 22, []byte("a"))
	y := record.NewReader()
	y.Skip(50)
	feeds(t, y, plain(23, make([]byte, 20)))
	waits(t, y, 0)
	if e := y.Key(l.s, l.key, l.iv); e != api.OK {
		t.Fatal(e)
	}
	feeds(t, y, plain(23, random(r, 31)))
	dies(t, "more than was left ahead of the key", y, api.AlertRecordMac)
}

// TestOpenedThings: what a record has that is opened, by its bytes within.
func TestOpenedThings(t *testing.T) {
	r := rand.New(rand.NewSource(10))
	ones := bytes.Repeat([]byte{1}, 16624)
	for _, c := range []struct {
		why   string
		bytes []byte
		want  api.Alert
	}{
		{"nothing", nil, api.AlertUnexpected},
		{"a nought", []byte{0}, api.AlertUnexpected},
		{"noughts", make([]byte, 16624), api.AlertUnexpected},
		{"an alert without bytes", []byte{21}, api.AlertUnexpected},
		{"a message without bytes", []byte{22}, api.AlertUnexpected},
		{"a message without bytes, with noughts", inner(22, nil, 300), api.AlertUnexpected},
		{"data without bytes", []byte{23}, api.AlertNone},
		{"data without bytes, with noughts", inner(23, nil, 16623), api.AlertNone},
		{"a change", []byte{1, 20}, api.AlertUnexpected},
		{"data of noughts", inner(23, make([]byte, 9), 0), api.AlertNone},
		{"a byte of data that is as a content", inner(23, []byte{22}, 0), api.AlertNone},
		{"as much data as may be", inner(23, ones[:16384], 0), api.AlertNone},
		{"as much data as may be, with noughts", inner(23, ones[:16384], 239), api.AlertNone},
		{"a message of as much as may be", inner(22, ones[:16384], 239), api.AlertNone},
		{"an alert of as much as may be", inner(21, ones[:16384], 0), api.AlertNone},
		{"too much data", inner(23, ones[:16385], 0), api.AlertOverflow},
		{"too much data, with noughts", inner(23, ones[:16385], 238), api.AlertOverflow},
		{"too much data, of noughts", inner(23, make([]byte, 16385), 0), api.AlertOverflow},
		{"far too much data", inner(23, ones[:16623], 0), api.AlertOverflow},
		{"too much of a message", inner(22, ones[:16385], 0), api.AlertOverflow},
		{"too much of something else", inner(24, ones[:16385], 0), api.AlertOverflow},
		{"too much of a change", inner(20, ones[:16400], 9), api.AlertOverflow},
		{"just so much of something else", inner(24, ones[:16384], 0), api.AlertUnexpected},
	} {
		for _, s := range suites() {
			l := lockOf(r, s)
			x := l.reader(t)
			x.Quiet(true)
			feeds(t, x, l.sealed(0, c.bytes))
			if c.want != api.AlertNone {
				x.Skip(1 << 20)
				dies(t, c.why, x, c.want)
				continue
			}
			trimmed := bytes.TrimRight(c.bytes, "\x00")
			tells(t, x, api.Content(trimmed[len(trimmed)-1]), trimmed[:len(trimmed)-1])
			feeds(t, x, l.sealed(1, inner(21, []byte("x"), 0)))
			tells(t, x, 21, []byte("x"))
		}
	}
}

// TestOpenedContents: each byte as the content.
func TestOpenedContents(t *testing.T) {
	l := lockOf(rand.New(rand.NewSource(11)), api.SuiteChaCha)
	for c := 1; c < 256; c++ {
		for _, noughts := range []int{0, 1, 30} {
			x := l.reader(t)
			x.Quiet(true)
			feeds(t, x, l.sealed(0, inner(api.Content(c), []byte("\x17ab"), noughts)))
			if c < 21 || c > 23 {
				dies(t, "another content", x, api.AlertUnexpected)
			} else {
				tells(t, x, api.Content(c), []byte("\x17ab"))
			}
		}
	}
}

// The five bytes of a record's head are held against its tag as they came.
func TestHeadsAside(t *testing.T) {
	r := rand.New(rand.NewSource(12))
	for _, s := range suites() {
		l := lockOf(r, s)
		for place := 1; place < 3; place++ {
			for bit := range 8 {
				x := l.reader(t)
				b := l.sealed(0, inner(23, []byte("ab"), 0))
				b[place] ^= 1 << bit
				feeds(t, x, b)
				dies(t, "another version", x, api.AlertRecordMac)
			}
		}
	}
}

// TestShortLocked: what is shorter than a tag can't be opened.
func TestShortLocked(t *testing.T) {
	r := rand.New(rand.NewSource(13))
	for _, s := range suites() {
		for n := 1; n < 17; n++ {
			x := lockOf(r, s).reader(t)
			feeds(t, x, plain(23, random(r, n)))
			dies(t, "a short one", x, api.AlertRecordMac)
		}
	}
}

// TestNumbers: a record is read by its own number alone.
func TestNumbers(t *testing.T) {
	r := rand.New(rand.NewSource(14))
	for _, s := range suites() {
		l := lockOf(r, s)
		for number := range uint64(4) {
			for other := range uint64(4) {
				x := l.reader(t)
				for n := range number {
					feeds(t, x, l.sealed(n, inner(23, nil, 0)))
					tells(t, x, 23, nil)
				}
				feeds(t, x, l.sealed(other, inner(23, []byte("a"), 0)))
				if other == number {
					tells(t, x, 23, []byte("a"))
				} else {
					dies(t, "another number", x, api.AlertRecordMac)
				}
			}
		}
	}
}

// TestDead: an alert comes behind what was told ahead of it, and what stands behind is not looked at.
func TestDead(t *testing.T) {
	x := record.NewReader()
	b := append(plain(22, []byte("a")), plain(21, []byte("b"))...)
	b = append(append(b, 19, 3, 3, 0, 0), plain(22, []byte("c"))...)
	feeds(t, x, b)
	tells(t, x, 22, []byte("a"))
	tells(t, x, 21, []byte("b"))
	if x.Held() != len(b)-12 {
		t.Errorf("%d are held", x.Held())
	}
	dies(t, "the third", x, api.AlertUnexpected)
}
