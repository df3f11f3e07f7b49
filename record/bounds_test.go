package record_test

import (
	"bytes"
	"math/rand"
	"testing"

	"drawbridge/api"
	"drawbridge/record"
)

// TestRoom: a reader takes the first bytes, as many as there is room for.
func TestRoom(t *testing.T) {
	r := rand.New(rand.NewSource(1))
	l := lockOf(r, api.SuiteChaCha)
	for _, x := range []*record.Reader{record.NewReader(), l.reader(t)} {
		if x.Held() != 0 || x.Feed(nil) != 0 || x.Feed([]byte{}) != 0 {
			t.Error("a new one holds bytes")
		}
		b := plain(23, make([]byte, 16640))
		held := 0
		for held < room {
			n := 1 + r.Intn(3000)
			want := min(n, room-held)
			piece := append(bytes.Clone(b[held:held+want]), random(r, n-want)...)
			if got := x.Feed(piece); got != want {
				t.Fatalf("Feed of %d bytes to %d: %d, want %d", n, held, got, want)
			}
			held += want
			if x.Held() != held {
				t.Fatalf("%d are held, want %d", x.Held(), held)
			}
		}
		if x.Feed([]byte("more")) != 0 || x.Held() != room {
			t.Errorf("%d are held", x.Held())
		}
		x.Skip(16640) // the longest record is whole with what is held
		waits(t, x, 0)
		if n := x.Feed(make([]byte, 1<<20)); n != room || x.Held() != room {
			t.Errorf("%d are taken, %d are held", n, x.Held())
		}
	}
}

// TestAlwaysGoesOn: who holds as much as may be tells a record or an alert.
func TestAlwaysGoesOn(t *testing.T) {
	r := rand.New(rand.NewSource(2))
	for n := range 1 << 12 {
		b := random(r, room)
		b[0] = byte(20 + r.Intn(4))
		b[3] = byte(r.Intn(0x42))
		x := record.NewReader()
		if n%64 == 0 {
			x = lockOf(r, suites()[r.Intn(3)]).reader(t)
		}
		feeds(t, x, b)
		if _, _, is, a := x.Next(); !is && a == api.AlertNone && x.Held() == room {
			t.Fatalf("head %x: it waits for more", b[:5])
		}
	}
}

// TestHoldsNoMore: whatever comes, in whatever pieces.
func TestHoldsNoMore(t *testing.T) {
	r := rand.New(rand.NewSource(3))
	for _, s := range suites() {
		l := lockOf(r, s)
		w, x := l.writer(t, 0), l.reader(t)
		flow := writes(t, w, 23, make([]byte, 65536), 255)
		for held := 0; len(flow) > 0; {
			n := r.Intn(20000)
			piece := flow[:min(n, len(flow))]
			want := min(len(piece), room-held)
			if got := x.Feed(piece); got != want || x.Held() != held+want {
				t.Fatalf("%d are taken, %d are held, want %d, %d", got, x.Held(), want, held+want)
			}
			flow = flow[want:]
			if _, _, _, a := x.Next(); a != api.AlertNone || x.Held() > room {
				t.Fatalf("%d, %d are held", a, x.Held())
			}
			held = x.Held()
		}
	}
}

// numberOf is the number by which a record was sealed, below most.
func numberOf(t *testing.T, l lock, b []byte, most uint64) uint64 {
	t.Helper()
	_, open := l.aead()
	found := most
	for number := range most {
		if _, is := open(number, b[:5], b[5:]); is {
			if found != most {
				t.Fatalf("it is opened by %d and by %d", found, number)
			}
			found = number
		}
	}
	if found == most {
		t.Fatalf("it is opened by no number below %d", most)
	}
	return found
}

// TestNumbersNeverTwice: whatever is written, whatever is refused between, each number is used once, and in order.
func TestNumbersNeverTwice(t *testing.T) {
	r := rand.New(rand.NewSource(4))
	for _, s := range suites() {
		l := lockOf(r, s)
		w := l.writer(t, 40)
		var next uint64
		for turn := 0; next < 40; turn++ {
			switch r.Intn(5) {
			case 0:
				refuses(t, w, 65537, 0, api.ErrRecordLong)
			case 1:
				refuses(t, w, 3, 256, api.ErrRecordLong)
			case 2:
				if w.Key(s, l.key[1:], l.iv, 0) != api.ErrRecordKey {
					t.Fatal("a key that is none")
				}
			case 3:
				if next > 36 {
					refuses(t, w, 65536, 0, api.ErrRecordFull)
				}
			}
			n := r.Intn(9)
			if next < 39 && turn%16 == 15 {
				n = 16385
			}
			for b := writes(t, w, api.Content(21+r.Intn(3)), make([]byte, n), 0); len(b) > 0; next++ {
				end := 5 + int(b[3])<<8 + int(b[4])
				if number := numberOf(t, l, b[:end], 42); number != next {
					t.Fatalf("suite %x: number %d, want %d", s, number, next)
				}
				b = b[end:]
			}
			if w.Left() != 40-next {
				t.Fatalf("%d are left behind %d", w.Left(), next)
			}
		}
		refuses(t, w, 0, 0, api.ErrRecordFull)
	}
}
