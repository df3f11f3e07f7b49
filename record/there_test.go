package record_test

import (
	"bytes"
	"math/rand"
	"testing"

	"drawbridge/api"
	"drawbridge/record"
)

// oneKind writes a text of any length that a reader tells, and what it then tells.
func oneKind(t *testing.T, r *rand.Rand, w *record.Writer, locked bool, most int) ([]byte, []told) {
	t.Helper()
	c, n := api.Content(21+r.Intn(2)), 1+r.Intn(most)
	if locked && r.Intn(2) == 0 {
		c = api.ContentData
		n -= r.Intn(2)
	}
	if r.Intn(20) == 0 {
		n = lengths()[1+r.Intn(len(lengths())-1)]
	}
	b := random(r, n)
	if r.Intn(5) == 0 {
		clear(b) // noughts at the end of a text are the text's
	}
	var want []told
	for _, piece := range pieces(b) {
		want = append(want, told{c, string(piece)})
	}
	return writes(t, w, c, b, r.Intn(2)*r.Intn(256)), want
}

// sizes are ways of cutting bytes into pieces.
func sizes(r *rand.Rand) []func() int {
	return []func() int{
		func() int { return 1 },
		func() int { return r.Intn(3) },
		func() int { return r.Intn(100) },
		func() int { return r.Intn(20000) },
		whole,
	}
}

// same: are these the same records?
func same(got, want []told) bool {
	if len(got) != len(want) {
		return false
	}
	for i := range got {
		if got[i] != want[i] {
			return false
		}
	}
	return true
}

// TestThereAndBack: plain, and then by one key behind the other, in whatever pieces.
func TestThereAndBack(t *testing.T) {
	r := rand.New(rand.NewSource(1))
	for turn := range 60 {
		for _, size := range sizes(r) {
			w, x := record.NewWriter(), record.NewReader()
			for key := range 4 {
				if l := lockOf(r, suites()[r.Intn(3)]); key > 0 {
					if w.Key(l.s, l.key, l.iv, 0) != api.OK || x.Key(l.s, l.key, l.iv) != api.OK {
						t.Fatal("the key is refused")
					}
				}
				var flow []byte
				var want []told
				for range r.Intn(12) {
					b, l := oneKind(t, r, w, key > 0, 200)
					flow, want = append(flow, b...), append(want, l...)
				}
				got, a := all(x, flow, size)
				if a != api.AlertNone || !same(got, want) || x.Held() != 0 {
					t.Fatalf("turn %d, key %d: %d records, want %d, the alert %d, %d are held", turn, key, len(got), len(want), a, x.Held())
				}
			}
		}
	}
}

// TestEachLengthThereAndBack: with no noughts, and as many as may be.
func TestEachLengthThereAndBack(t *testing.T) {
	r := rand.New(rand.NewSource(2))
	for _, s := range suites() {
		for _, pad := range []int{0, 1, 255} {
			l := lockOf(r, s)
			w, x := l.writer(t, 0), l.reader(t)
			for _, n := range lengths() {
				b := random(r, n)
				got, a := all(x, writes(t, w, api.ContentData, b, pad), whole)
				var text []byte
				for _, g := range got {
					text = append(text, g.text...)
				}
				if a != api.AlertNone || !bytes.Equal(text, b) || len(got) != len(pieces(b)) {
					t.Fatalf("suite %x, %d bytes, pad %d: %d bytes in %d records, %d", s, n, pad, len(text), len(got), a)
				}
			}
		}
	}
}

// TestManyRecords: the numbers go on in step.
func TestManyRecords(t *testing.T) {
	r := rand.New(rand.NewSource(3))
	for _, s := range suites() {
		l := lockOf(r, s)
		w, x := l.writer(t, 0), l.reader(t)
		for n := range 1500 {
			text := []byte{byte(n >> 8), byte(n)}
			feeds(t, x, writes(t, w, api.ContentData, text, n%4))
			tells(t, x, api.ContentData, text)
		}
	}
}

// A record by the next key may be held when the reader is given it.
func TestKeyBetween(t *testing.T) {
	r := rand.New(rand.NewSource(4))
	for _, s := range suites() {
		one, two := lockOf(r, s), lockOf(r, s)
		w := one.writer(t, 0)
		x := record.NewReader()
		b := plain(22, []byte("hello"))
		b = append(b, writes(t, w, 22, []byte("first"), 0)...)
		w.Key(two.s, two.key, two.iv, 0)
		b = append(b, writes(t, w, 23, []byte("second"), 0)...)
		feeds(t, x, b)
		tells(t, x, 22, []byte("hello"))
		x.Key(one.s, one.key, one.iv)
		tells(t, x, 22, []byte("first"))
		x.Key(two.s, two.key, two.iv)
		tells(t, x, 23, []byte("second"))
		waits(t, x, 0)
	}
}
