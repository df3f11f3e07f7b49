package record_test

import (
	"bytes"
	"math/rand"
	"testing"

	"drawbridge/api"
	"drawbridge/record"
)

// written are the records that a writer wrote, and what they have.
type written struct {
	l       lock
	records [][]byte
	texts   []told
}

func (w written) flow() []byte { return bytes.Join(w.records, nil) }

// someWritten are some short records of all kinds.
func someWritten(t *testing.T, r *rand.Rand, s api.Suite) written {
	t.Helper()
	out := written{l: lockOf(r, s)}
	w := out.l.writer(t, 0)
	for _, c := range []struct {
		c    api.Content
		text string
		pad  int
	}{{22, "hello", 0}, {23, "", 0}, {23, "some data", 3}, {23, "some data", 3}, {21, "\x01\x00", 7}} {
		out.records = append(out.records, writes(t, w, c.c, []byte(c.text), c.pad))
		out.texts = append(out.texts, told{c.c, c.text})
	}
	return out
}

// ahead: a reader with the key, told of these bytes, tells a beginning of what was written, of at least so many records and at most so many; it ends with an alert, if one must come.
func (w written) ahead(t *testing.T, why string, b []byte, least, most int, must bool) {
	t.Helper()
	for _, quiet := range []bool{false, true} {
		for _, skip := range []int{0, 30, 1 << 20} {
			x := w.l.reader(t)
			x.Quiet(quiet)
			x.Skip(skip)
			got, a := all(x, b, whole)
			if len(got) > most || !same(got, w.texts[:len(got)]) {
				t.Fatalf("suite %x, %s, quiet %v, skip %d: %v, %d, of %v", w.l.s, why, quiet, skip, got, a, w.texts)
			}
			// What can't be opened passes in silence if it may, at the beginning; a part of a record is waited for.
			if (skip == 0 || least > 0) && (len(got) < least || must && a == api.AlertNone && x.Held() == 0) {
				t.Fatalf("suite %x, %s, quiet %v, skip %d: %v, %d, nothing is held", w.l.s, why, quiet, skip, got, a)
			}
		}
	}
}

// place is which record a byte of the flow belongs to.
func (w written) place(at int) int {
	for i, b := range w.records {
		if at < len(b) {
			return i
		}
		at -= len(b)
	}
	return len(w.records)
}

// TestTurned: each bit.
func TestTurned(t *testing.T) {
	r := rand.New(rand.NewSource(1))
	for _, s := range suites() {
		w := someWritten(t, r, s)
		flow := w.flow()
		for bit := range 8 * len(flow) {
			b := bytes.Clone(flow)
			b[bit/8] ^= 1 << (bit % 8)
			n := w.place(bit / 8)
			w.ahead(t, "a bit turned", b, n, n, true)
		}
	}
}

// TestTurnedAlerts: which alert comes of a bit that is turned behind a record's head.
func TestTurnedAlerts(t *testing.T) {
	r := rand.New(rand.NewSource(2))
	for _, s := range suites() {
		l := lockOf(r, s)
		b := writes(t, l.writer(t, 0), api.ContentData, []byte("text"), 2)
		for bit := 8 * 5; bit < 8*len(b); bit++ {
			x := l.reader(t)
			b[bit/8] ^= 1 << (bit % 8)
			feeds(t, x, b)
			dies(t, "a bit turned", x, api.AlertRecordMac)
			b[bit/8] ^= 1 << (bit % 8)
		}
	}
}

// TestLeftOutPutIn: each byte, and pieces of some.
func TestLeftOutPutIn(t *testing.T) {
	r := rand.New(rand.NewSource(3))
	for _, s := range suites() {
		w := someWritten(t, r, s)
		flow := w.flow()
		for at := range flow {
			n := w.place(at)
			for _, k := range []int{1, 2, 5, 30} {
				// Of bytes that are the same ones it can't be told which of them are left out: more may be told.
				end := min(len(flow), at+k)
				w.ahead(t, "left out", append(bytes.Clone(flow[:at]), flow[end:]...), n, len(w.texts)-1, end < len(flow))
				in := append(append(bytes.Clone(flow[:at]), random(r, k)...), flow[at:]...)
				w.ahead(t, "put in", in, n, len(w.texts)-1, true)
			}
			w.ahead(t, "cut off", flow[:at], n, n, false)
			w.ahead(t, "a nought put in", append(append(bytes.Clone(flow[:at]), 0), flow[at:]...), n, len(w.texts)-1, true)
		}
		for k := 1; k < 40; k++ {
			w.ahead(t, "put in at the end", append(bytes.Clone(flow), random(r, k)...), len(w.texts), len(w.texts), true)
		}
	}
}

// joined are records in the order of these places.
func (w written) joined(places ...int) (b []byte) {
	for _, i := range places {
		b = append(b, w.records[i]...)
	}
	return b
}

// TestWholeRecords: in all orders, some of them left out, some said again.
func TestWholeRecords(t *testing.T) {
	r := rand.New(rand.NewSource(4))
	for _, s := range suites() {
		w := someWritten(t, r, s)
		n := len(w.records)
		for range 3000 {
			var places []int
			for range r.Intn(8) {
				places = append(places, r.Intn(n))
			}
			if r.Intn(2) == 0 { // right at first
				places = append([]int{0, 1, 2, 3, 4}[:r.Intn(n+1)], places...)
			}
			right := 0
			for right < len(places) && right < n && places[right] == right {
				right++
			}
			x := w.l.reader(t)
			got, a := all(x, w.joined(places...), whole)
			want := api.AlertNone
			if right < len(places) {
				want = api.AlertRecordMac
			}
			if !same(got, w.texts[:right]) || a != want {
				t.Fatalf("suite %x, records %v: %v, %d", s, places, got, a)
			}
		}
	}
}

// TestOthersRecords: what another writer wrote, by another key, suite or iv, or without one.
func TestOthersRecords(t *testing.T) {
	r := rand.New(rand.NewSource(5))
	for _, s := range suites() {
		w := someWritten(t, r, s)
		n := len(w.records)
		iv, turned := w.l, w.l
		iv.iv[r.Intn(12)] ^= 1
		turned.key = bytes.Clone(turned.key)
		turned.key[r.Intn(len(turned.key))] ^= 128
		other := w.l
		if s == api.SuiteChaCha {
			other.s = api.SuiteAES256
		} else if s == api.SuiteAES256 {
			other.s = api.SuiteChaCha
		}
		strays := [][]byte{plain(22, []byte("x")), plain(21, []byte{1, 0}), plain(23, []byte("x")), plain(20, []byte{1, 1})}
		for i := range n {
			for _, l := range []lock{iv, turned, lockOf(r, s)} {
				strays = append(strays, l.sealed(uint64(i), inner(23, []byte("stray"), 0)))
			}
			if other.s != s {
				strays = append(strays, other.sealed(uint64(i), inner(23, []byte("stray"), 0)))
			}
		}
		for i := range n + 1 {
			for _, stray := range strays {
				b := append(bytes.Join(w.records[:i], nil), stray...)
				b = append(b, bytes.Join(w.records[i:], nil)...)
				x := w.l.reader(t)
				got, a := all(x, b, whole)
				if !same(got, w.texts[:i]) || a == api.AlertNone || x.Held() != 0 {
					t.Fatalf("suite %x, %x at %d: %v, %d", s, stray, i, got, a)
				}
			}
		}
	}
}

// A change that is put in is passed over while it is quiet, wherever it stands between records: all is told.
func TestChangesPutIn(t *testing.T) {
	r := rand.New(rand.NewSource(6))
	for _, s := range suites() {
		w := someWritten(t, r, s)
		var b []byte
		for _, one := range w.records {
			b = append(append(b, plain(20, []byte{1})...), one...)
		}
		x := w.l.reader(t)
		x.Quiet(true)
		if got, a := all(x, b, whole); !same(got, w.texts) || a != api.AlertNone {
			t.Errorf("suite %x: %v, %d", s, got, a)
		}
		x = w.l.reader(t)
		if got, a := all(x, b, whole); len(got) != 0 || a != api.AlertUnexpected {
			t.Errorf("suite %x, not quiet: %v, %d", s, got, a)
		}
	}
}

// TestManyFaults: several of them in one flow, of random kinds and at random places.
func TestManyFaults(t *testing.T) {
	r := rand.New(rand.NewSource(7))
	for _, s := range suites() {
		w := someWritten(t, r, s)
		for range 3000 {
			b := w.flow()
			for range 1 + r.Intn(4) {
				at := r.Intn(len(b))
				switch r.Intn(4) {
				case 0:
					b[at] = byte(r.Intn(256))
				case 1:
					b = append(b[:at:at], b[at+1:]...)
				case 2:
					b = append(append(b[:at:at], random(r, 1+r.Intn(9))...), b[at:]...)
				case 3:
					b = append(append(b[:at:at], plain(api.Content(20+r.Intn(4)), random(r, r.Intn(3)))...), b[at:]...)
				}
			}
			w.ahead(t, "many faults", b, 0, len(w.texts), false)
		}
	}
}

// TestRandomBytes: none of them ends it by a panic, or is told as a record.
func TestRandomBytes(t *testing.T) {
	r := rand.New(rand.NewSource(8))
	for range 20000 {
		x := record.NewReader()
		if r.Intn(2) == 0 {
			x = lockOf(r, suites()[r.Intn(3)]).reader(t)
		}
		x.Quiet(r.Intn(2) == 0)
		x.Skip(r.Intn(3) * r.Intn(300))
		b := random(r, 60)
		for at := 0; at < 60; at += 1 + r.Intn(30) {
			b[at] = byte(20 + r.Intn(4))
			copy(b[at+1:], []byte{3, 3, 0, byte(r.Intn(30))}[:min(4, 59-at)])
		}
		got, _ := all(x, b, func() int { return 1 + r.Intn(60) })
		for _, g := range got {
			if g.c != 21 && g.c != 22 || len(g.text) == 0 {
				t.Fatalf("%x: %v", b, g)
			}
		}
	}
}
