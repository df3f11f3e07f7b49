package record_test

import (
	"bytes"
	"math/rand"
	"testing"

	"drawbridge/api"
	"drawbridge/record"
)

// spare is a list with spare room, all of which is 0xee.
func spare(b []byte) []byte {
	out := append(make([]byte, 0, len(b)+40), b...)
	for i := len(b); i < cap(out); i++ {
		out[:cap(out)][i] = 0xee
	}
	return out
}

// kept: is a list as it was, its spare room too?
func kept(b []byte, was []byte) bool {
	for _, c := range b[len(b):cap(b)] {
		if c != 0xee {
			return false
		}
	}
	return bytes.Equal(b, was)
}

// scribble changes all of a list, its spare room too.
func scribble(b []byte) {
	b = b[:cap(b)]
	for i := range b {
		b[i] ^= 0x55
	}
}

// bothKinds are a writer and a reader of each kind that fit together: without a key, and with one.
func bothKinds(t *testing.T, r *rand.Rand) (l []func() (*record.Writer, *record.Reader)) {
	t.Helper()
	l = append(l, func() (*record.Writer, *record.Reader) { return record.NewWriter(), record.NewReader() })
	for _, s := range suites() {
		by := lockOf(r, s)
		l = append(l, func() (*record.Writer, *record.Reader) { return by.writer(t, 0), by.reader(t) })
	}
	return l
}

// TestKeepsNoKey: neither a writer nor a reader changes a key that is handed in, or hangs on it any more.
func TestKeepsNoKey(t *testing.T) {
	r := rand.New(rand.NewSource(1))
	for _, s := range suites() {
		l := lockOf(r, s)
		key := spare(l.key)
		w, x := record.NewWriter(), record.NewReader()
		if w.Key(s, key, l.iv, 0) != api.OK || x.Key(s, key, l.iv) != api.OK || !kept(key, l.key) {
			t.Fatalf("suite %x: Key changes its key", s)
		}
		scribble(key)
		b := writes(t, w, 22, []byte("text"), 5)
		if !bytes.Equal(b, l.sealed(0, inner(22, []byte("text"), 5))) {
			t.Errorf("suite %x: the writer hangs on what was handed in", s)
		}
		feeds(t, x, l.sealed(0, inner(22, []byte("text"), 5)))
		tells(t, x, 22, []byte("text"))
		scribble(key)
		if !kept(key, l.key) {
			t.Errorf("suite %x: the key was written into", s)
		}
	}
}

// TestWritesNewMemory: what is written is left alone, and what comes out is nobody else's.
func TestWritesNewMemory(t *testing.T) {
	r := rand.New(rand.NewSource(2))
	for _, n := range []int{0, 1, 100, 16384, 16385, 40000} {
		for i, pair := range bothKinds(t, r) {
			text := random(r, n)
			w, _ := pair()
			twin, _ := pair()
			b := spare(text)
			got, want := writes(t, w, 22, b, 9), writes(t, twin, 22, text, 9)
			if !kept(b, text) {
				t.Fatalf("%d, %d bytes: Write changes what it writes", i, n)
			}
			scribble(b)
			if !bytes.Equal(got, want) {
				t.Fatalf("%d, %d bytes: what is written shares what was handed in", i, n)
			}
			scribble(b)
			scribble(got)
			if !kept(b, text) {
				t.Fatalf("%d, %d bytes: what was handed in shares what is written", i, n)
			}
			if !bytes.Equal(writes(t, w, 22, b, 0), writes(t, twin, 22, text, 0)) {
				t.Fatalf("%d, %d bytes: the next record hangs on what was written", i, n)
			}
		}
	}
}

// TestReadsNewMemory: what is fed is left alone, and not kept; what comes out is nobody else's.
func TestReadsNewMemory(t *testing.T) {
	r := rand.New(rand.NewSource(3))
	for i, pair := range bothKinds(t, r) {
		w, x := pair()
		var flow []byte
		var want [][]byte
		for n := range 30 {
			text := random(r, 1+n*n)
			want = append(want, text)
			flow = append(flow, writes(t, w, 22, text, n)...)
		}
		var got [][]byte
		for len(flow) > 0 {
			b := spare(flow[:min(len(flow), 1+r.Intn(700))])
			was := bytes.Clone(b)
			flow = flow[x.Feed(b):]
			if !kept(b, was) {
				t.Fatalf("%d: Feed changes what it is fed", i)
			}
			scribble(b)
			for {
				_, text, is, a := x.Next()
				if a != api.AlertNone {
					t.Fatalf("%d: %d", i, a)
				}
				if !is {
					break
				}
				if !bytes.Equal(text, want[len(got)]) {
					t.Fatalf("%d: record %d hangs on what was told, or fed", i, len(got))
				}
				got = append(got, text)
				scribble(text)
			}
		}
		if len(got) != len(want) {
			t.Fatalf("%d: %d records, want %d", i, len(got), len(want))
		}
		for n, text := range got {
			for k := range text {
				text[k] ^= 0x55
			}
			if !bytes.Equal(text, want[n]) {
				t.Fatalf("%d: record %d shares memory with another", i, n)
			}
		}
	}
}

// What stood behind a text is not in its spare room.
func TestNothingBehindTexts(t *testing.T) {
	r := rand.New(rand.NewSource(4))
	for i, pair := range bothKinds(t, r) {
		w, x := pair()
		feeds(t, x, writes(t, w, 22, []byte("text"), 100))
		feeds(t, x, writes(t, w, 22, []byte("more"), 0))
		_, text, _, _ := x.Next()
		for _, c := range text[len(text):cap(text)] {
			if c != 0 {
				t.Fatalf("%d: %x stands behind the text", i, text[len(text):cap(text)])
			}
		}
		_ = append(text, "which goes to memory of its own"...)
		tells(t, x, 22, []byte("more"))
	}
}

// TestAloneByItself: writers and readers have nothing of one another, however their calls are mixed, and the same calls bring the same answers.
func TestAloneByItself(t *testing.T) {
	r := rand.New(rand.NewSource(5))
	for i, pair := range bothKinds(t, r) {
		var flows [3][]byte
		var writers [3]*record.Writer
		var readers [3]*record.Reader
		for k := range 3 {
			writers[k], readers[k] = pair()
		}
		var counts [3]int
		for range 200 {
			k := r.Intn(3)
			text := bytes.Repeat([]byte{byte(counts[k])}, 1+counts[k])
			b := writes(t, writers[k], 22, text, counts[k])
			flows[k] = append(flows[k], b...)
			counts[k]++
			feeds(t, readers[k], b)
			tells(t, readers[k], 22, text)
		}
		n := min(len(flows[0]), len(flows[1]), len(flows[2]))
		if !bytes.Equal(flows[0][:n], flows[1][:n]) || !bytes.Equal(flows[1][:n], flows[2][:n]) {
			t.Errorf("%d: three that were called alike wrote otherwise", i)
		}
	}
}
