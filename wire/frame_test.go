package wire_test

import (
	"bytes"
	"crypto/sha256"
	"encoding/hex"
	"math/rand"
	"slices"
	"testing"

	"drawbridge/api"
	"drawbridge/wire"
)

// of are the bytes that hexadecimal digits tell.
func of(t *testing.T, digits string) []byte {
	t.Helper()
	b, err := hex.DecodeString(digits)
	if err != nil {
		t.Fatal(err)
	}
	return b
}

// unframes is what Unframe must say.
func unframes(t *testing.T, b []byte, m api.MsgType, body []byte, n int, alert api.Alert) {
	t.Helper()
	kept := bytes.Clone(b)
	gotM, gotB, gotN, a := wire.Unframe(b)
	if gotM != m || !bytes.Equal(gotB, body) || gotN != n || a != alert {
		t.Fatalf("Unframe(%x): %d, %d bytes, %d, %d, want %d, %d bytes, %d, %d", b[:min(len(b), 8)], gotM, len(gotB), gotN, a, m, len(body), n, alert)
	}
	if !bytes.Equal(b, kept) {
		t.Fatal("what was handed in is not as it was")
	}
}

func TestFrameExamples(t *testing.T) {
	if got := wire.Frame(20, []byte{1, 2}); !bytes.Equal(got, of(t, "140000020102")) {
		t.Errorf("%x", got)
	}
	unframes(t, of(t, "1400000201"), 0, nil, 0, api.AlertNone)
	unframes(t, of(t, "14004001"), 0, nil, 0, api.AlertDecode)
	unframes(t, of(t, "140000020102"), 20, []byte{1, 2}, 6, api.AlertNone)
	unframes(t, of(t, "00000000"), 0, nil, 4, api.AlertNone)
	unframes(t, of(t, "0000000000000000"), 0, nil, 4, api.AlertNone)
}

// All types, and bodies of all lengths at the edges, alone and with something behind.
func TestFrames(t *testing.T) {
	r := rand.New(rand.NewSource(1))
	lengths := []int{0, 1, 2, 3, 4, 5, 127, 128, 255, 256, 257, 300, 511, 512, 16382, 16383, 16384}
	for m := range 256 {
		for _, n := range lengths {
			if m > 24 && m < 250 && n > 300 {
				continue
			}
			body := some(r, n)
			b := wire.Frame(api.MsgType(m), body)
			want := slices.Concat([]byte{byte(m), byte(n >> 16), byte(n >> 8), byte(n)}, body)
			if !bytes.Equal(b, want) {
				t.Fatalf("Frame(%d, %d bytes): %x", m, n, b[:min(len(b), 8)])
			}
			unframes(t, b, api.MsgType(m), body, n+4, api.AlertNone)
			unframes(t, append(b, 0), api.MsgType(m), body, n+4, api.AlertNone)
			unframes(t, slices.Concat(b, b), api.MsgType(m), body, n+4, api.AlertNone)
		}
	}
}

func TestTooLongToFrame(t *testing.T) {
	for _, n := range []int{16385, 16386, 20000, 32768, 65535, 65536, 1 << 24, 1<<24 + 2} {
		if b := wire.Frame(1, make([]byte, n)); len(b) != 0 {
			t.Errorf("%d: %d", n, len(b))
		}
		if n < 1<<24 {
			head := []byte{1, byte(n >> 16), byte(n >> 8), byte(n)}
			unframes(t, head, 0, nil, 0, api.AlertDecode)
			unframes(t, append(head, make([]byte, n)...), 0, nil, 0, api.AlertDecode)
		}
	}
	for n := range 1 << 24 {
		if n&0xff != 0 && n&0xff != 1 && n&0xff != 0xff && n > 70000 {
			continue
		}
		_, _, _, a := wire.Unframe([]byte{1, byte(n >> 16), byte(n >> 8), byte(n)})
		if (a == api.AlertDecode) != (n > 16384) || a != api.AlertDecode && a != api.AlertNone {
			t.Fatal(n, a)
		}
	}
}

// What has fewer than four bytes is not looked at; of what is not whole nothing is told.
func TestNotWholeFrames(t *testing.T) {
	texts([]byte{0, 1, 0x40, 255}, 3, func(b []byte) { unframes(t, b, 0, nil, 0, api.AlertNone) })
	for _, n := range []int{1, 2, 255, 256, 257, 16384} {
		b := wire.Frame(11, bytes.Repeat([]byte{9}, n))
		for cut := range b {
			unframes(t, b[:cut], 0, nil, 0, api.AlertNone)
		}
	}
}

// Messages one behind the other come one by one, whatever stands behind them.
func TestFramesOfAStream(t *testing.T) {
	r := rand.New(rand.NewSource(2))
	var stream []byte
	var bodies [][]byte
	for i := range 100 {
		body := some(r, 0, 1, 2, 5, 300)
		bodies = append(bodies, body)
		stream = append(stream, wire.Frame(api.MsgType(i), body)...)
	}
	for i, body := range bodies {
		unframes(t, stream, api.MsgType(i), body, len(body)+4, api.AlertNone)
		stream = stream[len(body)+4:]
	}
	unframes(t, stream, 0, nil, 0, api.AlertNone)
}

func TestRetry(t *testing.T) {
	if got := wire.Retry(); got != sha256.Sum256([]byte("HelloRetryRequest")) {
		t.Errorf("%x", got)
	}
	if got := wire.Retry(); !bytes.Equal(got[:], of(t, "cf21ad74e59a6111be1d8c021e65b891c2a211167abb8c5e079e09e2c8a8339c")) {
		t.Errorf("%x", got)
	}
}

func TestFind(t *testing.T) {
	l := []api.Ext{{Type: 3, Data: []byte("q")}, {Type: 0}, {Type: 41, Data: []byte("first")}, {Type: 41, Data: []byte("second")}, {Type: 0xffff, Data: []byte{0}}}
	for _, c := range []struct {
		l    []api.Ext
		t    uint16
		want string
		is   bool
	}{
		{l, 3, "q", true},
		{l, 0, "", true},
		{l, 41, "first", true},
		{l, 0xffff, "\x00", true},
		{l, 1, "", false},
		{l, 0x2900, "", false},
		{l[:2], 41, "", false},
		{l[3:], 41, "second", true},
		{nil, 0, "", false},
	} {
		if got, is := wire.Find(c.l, c.t); string(got) != c.want || is != c.is {
			t.Errorf("%d: %q, %v", c.t, got, is)
		}
	}
	for n := range 1 << 16 {
		if _, is := wire.Find(l, uint16(n)); is != (n == 0 || n == 3 || n == 41 || n == 0xffff) {
			t.Fatal(n, is)
		}
	}
}
