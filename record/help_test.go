package record_test

import (
	"bytes"
	"crypto/aes"
	"crypto/cipher"
	"encoding/binary"
	"math/rand"
	"testing"

	"drawbridge/api"
	"drawbridge/record"
	"drawbridge/suite"
)

// room is how many bytes a reader holds, at most.
const room = 16645

func suites() []api.Suite {
	return []api.Suite{api.SuiteAES128, api.SuiteAES256, api.SuiteChaCha}
}

// lock is what a writer and a reader share.
type lock struct {
	s   api.Suite
	key []byte
	iv  [12]byte
}

func random(r *rand.Rand, n int) []byte {
	b := make([]byte, n)
	r.Read(b)
	return b
}

func lockOf(r *rand.Rand, s api.Suite) lock {
	return lock{s, random(r, suite.KeyLen(s)), [12]byte(random(r, 12))}
}

// aead are the two ways of a lock: by the library, where it has the suite.
func (l lock) aead() (seal, open func(number uint64, aside, b []byte) ([]byte, bool)) {
	nonce := func(number uint64) [12]byte {
		iv := l.iv
		for i, b := range binary.BigEndian.AppendUint64(nil, number) {
			iv[4+i] ^= b
		}
		return iv
	}
	if l.s == api.SuiteChaCha {
		seal = func(number uint64, aside, b []byte) ([]byte, bool) {
			out, e := suite.Seal(l.s, l.key, nonce(number), aside, b)
			return out, e == api.OK
		}
		open = func(number uint64, aside, b []byte) ([]byte, bool) {
			out, e := suite.Open(l.s, l.key, nonce(number), aside, b)
			return out, e == api.OK
		}
		return seal, open
	}
	block, err := aes.NewCipher(l.key)
	if err != nil {
		panic(err)
	}
	gcm, err := cipher.NewGCM(block)
	if err != nil {
		panic(err)
	}
	seal = func(number uint64, aside, b []byte) ([]byte, bool) {
		n := nonce(number)
		return gcm.Seal(nil, n[:], b, aside), true
	}
	open = func(number uint64, aside, b []byte) ([]byte, bool) {
		n := nonce(number)
		out, err := gcm.Open(nil, n[:], b, aside)
		return out, err == nil
	}
	return seal, open
}

// plain is a record by hand.
func plain(t api.Content, b []byte) []byte {
	return append([]byte{byte(t), 3, 3, byte(len(b) >> 8), byte(len(b))}, b...)
}

// sealed is a record by hand, locked up with just these bytes within.
func (l lock) sealed(number uint64, inner []byte) []byte {
	n := len(inner) + 16
	head := []byte{23, 3, 3, byte(n >> 8), byte(n)}
	seal, _ := l.aead()
	b, is := seal(number, head, inner)
	if !is {
		panic("it can't be sealed")
	}
	return append(head, b...)
}

// inner is what is locked up of a text.
func inner(t api.Content, text []byte, noughts int) []byte {
	return append(append(bytes.Clone(text), byte(t)), make([]byte, noughts)...)
}

func (l lock) writer(t *testing.T, limit uint64) *record.Writer {
	t.Helper()
	w := record.NewWriter()
	if e := w.Key(l.s, l.key, l.iv, limit); e != api.OK {
		t.Fatal(e)
	}
	return w
}

func (l lock) reader(t *testing.T) *record.Reader {
	t.Helper()
	r := record.NewReader()
	if e := r.Key(l.s, l.key, l.iv); e != api.OK {
		t.Fatal(e)
	}
	return r
}

// writes is what Write answers, which must be no error.
func writes(t *testing.T, w *record.Writer, c api.Content, b []byte, pad int) []byte {
	t.Helper()
	out, e := w.Write(c, b, pad)
	if e != api.OK {
		t.Fatalf("Write of %d bytes of %d, with %d noughts: %v", len(b), c, pad, e)
	}
	return out
}

// feeds feeds bytes, all of which must be taken.
func feeds(t *testing.T, r *record.Reader, b []byte) {
	t.Helper()
	if n := r.Feed(b); n != len(b) {
		t.Fatalf("Feed of %d bytes took %d", len(b), n)
	}
}

// tells: Next answers this record.
func tells(t *testing.T, r *record.Reader, c api.Content, b []byte) {
	t.Helper()
	if got, text, is, a := r.Next(); got != c || !bytes.Equal(text, b) || !is || a != api.AlertNone {
		t.Fatalf("Next: %d, %d bytes, %v, %d, want %d, %d bytes", got, len(text), is, a, c, len(b))
	}
}

// waits: Next answers that nothing is whole, and so many bytes are held.
func waits(t *testing.T, r *record.Reader, held int) {
	t.Helper()
	for range 2 {
		if c, text, is, a := r.Next(); c != 0 || len(text) != 0 || is || a != api.AlertNone || r.Held() != held {
			t.Fatalf("Next: %d, %x, %v, %d, %d are held, want %d", c, text, is, a, r.Held(), held)
		}
	}
}

// dies: Next answers this alert, now and ever after, whatever else is called.
func dies(t *testing.T, why string, r *record.Reader, want api.Alert) {
	t.Helper()
	for turn := range 3 {
		if c, text, is, a := r.Next(); c != 0 || len(text) != 0 || is || a != want {
			t.Fatalf("%s: Next: %d, %x, %v, %d, want %d", why, c, text, is, a, want)
		}
		if r.Held() != 0 || r.Feed([]byte("\x16\x03\x03\x00\x01\x01")) != 0 || r.Feed(nil) != 0 || r.Held() != 0 {
			t.Fatalf("%s: a dead one holds bytes", why)
		}
		if turn == 1 {
			r.Skip(1 << 20)
			r.Quiet(true)
			if e := r.Key(api.SuiteAES128, make([]byte, 16), [12]byte{}); e != api.OK {
				t.Fatalf("%s: Key: %v", why, e)
			}
			if e := r.Key(api.SuiteAES128, make([]byte, 15), [12]byte{}); e != api.ErrRecordKey {
				t.Fatalf("%s: Key: %v", why, e)
			}
		}
	}
}

// told is a record that a reader told.
type told struct {
	c    api.Content
	text string
}

// all is what a reader tells of bytes that come in pieces of the lengths that size tells, and the alert at the end.
func all(r *record.Reader, b []byte, size func() int) (l []told, a api.Alert) {
	for {
		n := r.Feed(b[:min(len(b), size())])
		b = b[n:]
		for {
			c, text, is, a := r.Next()
			if a != api.AlertNone {
				return l, a
			}
			if !is {
				break
			}
			l = append(l, told{c, string(text)})
		}
		if len(b) == 0 {
			return l, api.AlertNone
		}
	}
}

// whole is a size of pieces: as many bytes as there is room for.
func whole() int { return 1 << 20 }
