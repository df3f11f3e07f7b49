package der_test

import (
	"bytes"
	"math/big"
	"math/rand"
	"slices"
	"testing"

	"drawbridge/api"
	"drawbridge/der"
)

// numBody is the one body of a number.
func numBody(n *big.Int) []byte {
	b := n.Bytes()
	if len(b) == 0 || b[0] > 127 {
		return slices.Concat([]byte{0}, b)
	}
	return b
}

// told are a number's bytes, as Num tells them.
func told(n *big.Int) []byte {
	if n.Sign() == 0 {
		return []byte{0}
	}
	return n.Bytes()
}

// num: is Num of a body as it must be: of the one body of a number that number, of another nothing?
func num(t *testing.T, b []byte) {
	t.Helper()
	n := new(big.Int).SetBytes(b)
	got, e := der.Num(b)
	if len(b) <= 33 && bytes.Equal(b, numBody(n)) {
		if !bytes.Equal(got, told(n)) || e != api.OK {
			t.Fatalf("Num(%x): %x, %d", b, got, e)
		}
		return
	}
	if len(got) != 0 || e != api.ErrDerValue {
		t.Fatalf("Num(%x): %x, %d, want ErrDerValue", b, got, e)
	}
}

func TestExamplesOfNumbers(t *testing.T) {
	for _, c := range []struct {
		b, got []byte
		want   api.Errno
	}{
		{[]byte{0, 0x80}, []byte{0x80}, api.OK},
		{[]byte{0, 0x7f}, nil, api.ErrDerValue},
		{[]byte{0x80}, nil, api.ErrDerValue},
		{[]byte{0}, []byte{0}, api.OK},
		{[]byte{0, 0}, nil, api.ErrDerValue},
		{[]byte{0, 0, 0x80}, nil, api.ErrDerValue},
		{[]byte{1, 0}, []byte{1, 0}, api.OK},
		{nil, nil, api.ErrDerValue},
	} {
		if got, e := der.Num(c.b); !bytes.Equal(got, c.got) || e != c.want {
			t.Errorf("Num(%x): %x, %d", c.b, got, e)
		}
	}
}

func TestNumbers(t *testing.T) {
	texts([]byte{0, 1, 0x7f, 0x80, 0xff}, 6, func(b []byte) { num(t, b) })
	for c := range 256 {
		num(t, []byte{byte(c)})
		for d := range 256 {
			num(t, []byte{byte(c), byte(d)})
		}
	}
	r := rand.New(rand.NewSource(10))
	for n := range 70 {
		for _, begin := range [][]byte{{0}, {0, 0}, {0, 0x7f}, {0, 0x80}, {0, 0xff}, {1}, {0x7f}, {0x80}, {0xff}} {
			b := make([]byte, n)
			r.Read(b)
			copy(b, begin)
			num(t, b)
		}
	}
	num(t, make([]byte, 100000))
}

// TestLongestNumbers: 33 bytes of a body are the last that may be, a nought ahead counted.
func TestLongestNumbers(t *testing.T) {
	for _, first := range []byte{0x01, 0x7f} {
		b := slices.Concat([]byte{first}, make([]byte, 32))
		if got, e := der.Num(b); !bytes.Equal(got, b) || e != api.OK {
			t.Errorf("Num(%x): %x, %d", b, got, e)
		}
		if got, e := der.Num(append(b, 0)); len(got) != 0 || e != api.ErrDerValue {
			t.Errorf("Num of 34 bytes: %x, %d", got, e)
		}
	}
	b := bytes.Repeat([]byte{0xff}, 34)
	b[0] = 0
	if got, e := der.Num(b[:33]); !bytes.Equal(got, b[1:33]) || e != api.OK {
		t.Errorf("Num(%x): %x, %d", b[:33], got, e)
	}
	if got, e := der.Num(b); len(got) != 0 || e != api.ErrDerValue {
		t.Errorf("Num(%x): %x, %d", b, got, e)
	}
}

// putNum: is the item of a number as it must be, however many noughts stand ahead, and read as it was?
func putNum(t *testing.T, b []byte) {
	t.Helper()
	got := der.PutNum(b)
	n := new(big.Int).SetBytes(b)
	body := numBody(n)
	if len(body) > 33 {
		if len(got) != 0 {
			t.Fatalf("PutNum(%x): %x, want nothing", b, got)
		}
		return
	}
	if !bytes.Equal(got, slices.Concat([]byte{2, byte(len(body))}, body)) {
		t.Fatalf("PutNum(%x): %x", b, got)
	}
	x, e := der.Next(got, 0)
	if e != api.OK || x.Len != len(got) {
		t.Fatalf("Next(%x): %v, %d", got, x, e)
	}
	if back, e := der.Num(x.Body); !bytes.Equal(back, told(n)) || e != api.OK {
		t.Fatalf("Num(%x): %x, %d", x.Body, back, e)
	}
}

func TestPutNum(t *testing.T) {
	for _, c := range []struct {
		b    []byte
		want string
	}{
		{nil, "\x02\x01\x00"}, {[]byte{}, "\x02\x01\x00"}, {[]byte{0, 0}, "\x02\x01\x00"}, {[]byte{5}, "\x02\x01\x05"}, {[]byte{0, 0, 5}, "\x02\x01\x05"}, {[]byte{0x80}, "\x02\x02\x00\x80"}, {[]byte{0, 0x80}, "\x02\x02\x00\x80"}, {[]byte{1, 0}, "\x02\x02\x01\x00"},
	} {
		if got := der.PutNum(c.b); string(got) != c.want {
			t.Errorf("PutNum(%x): %x", c.b, got)
		}
	}
	texts([]byte{0, 1, 0x7f, 0x80, 0xff}, 5, func(b []byte) { putNum(t, b) })
	r := rand.New(rand.NewSource(11))
	for n := range 70 {
		for _, first := range []byte{0x01, 0x7f, 0x80, 0xff} {
			for _, noughts := range []int{0, 1, 2, 33, 1000} {
				b := make([]byte, n)
				r.Read(b)
				copy(b, []byte{first})
				putNum(t, slices.Concat(make([]byte, noughts), b))
			}
		}
	}
	putNum(t, make([]byte, 100000))
}

// TestNumbersWrittenAgain: what Num takes PutNum writes again, byte for byte.
func TestNumbersWrittenAgain(t *testing.T) {
	texts([]byte{0, 1, 0x7f, 0x80, 0xff}, 5, func(b []byte) {
		n, e := der.Num(b)
		if e != api.OK {
			return
		}
		if again := der.PutNum(n); !bytes.Equal(again, der.Put(2, b)) {
			t.Fatalf("%x is written again as %x", b, again)
		}
	})
}

// small: is Small of a body the number, if it is one below 2^31?
func small(t *testing.T, b []byte) {
	t.Helper()
	n := new(big.Int).SetBytes(b)
	got, e := der.Small(b)
	if len(b) <= 33 && bytes.Equal(b, numBody(n)) && n.BitLen() <= 31 {
		if int64(got) != n.Int64() || e != api.OK {
			t.Fatalf("Small(%x): %d, %d", b, got, e)
		}
		return
	}
	if got != 0 || e != api.ErrDerValue {
		t.Fatalf("Small(%x): %d, %d, want ErrDerValue", b, got, e)
	}
}

func TestSmall(t *testing.T) {
	for _, n := range []int64{0, 1, 127, 128, 255, 256, 65535, 65536, 1 << 24, 1<<31 - 1} {
		if got, e := der.Small(numBody(big.NewInt(n))); int64(got) != n || e != api.OK {
			t.Errorf("Small of %d: %d, %d", n, got, e)
		}
	}
	for _, n := range []int64{1 << 31, 1<<31 + 1, 1 << 32, 1<<32 + 5, 1 << 40, 1<<62 + 1} {
		if got, e := der.Small(numBody(big.NewInt(n))); got != 0 || e != api.ErrDerValue {
			t.Errorf("Small of %d: %d, %d", n, got, e)
		}
	}
	texts([]byte{0, 1, 0x7f, 0x80, 0xff}, 6, func(b []byte) { small(t, b) })
	for n := range 40 {
		for _, first := range []byte{0, 1, 0x7f, 0x80} {
			b := make([]byte, n)
			copy(b, []byte{first})
			small(t, b)
		}
	}
}

func TestBool(t *testing.T) {
	for c := range 256 {
		is, e := der.Bool([]byte{byte(c)})
		switch c {
		case 0, 255:
			if is != (c == 255) || e != api.OK {
				t.Errorf("Bool(%x): %v, %d", c, is, e)
			}
		default:
			if is || e != api.ErrDerValue {
				t.Errorf("Bool(%x): %v, %d", c, is, e)
			}
		}
	}
	for _, b := range [][]byte{nil, {}, {0, 0}, {255, 255}, {255, 0}, {0, 255}, make([]byte, 1000)} {
		if is, e := der.Bool(b); is || e != api.ErrDerValue {
			t.Errorf("Bool(%x): %v, %d", b, is, e)
		}
	}
}

// noBits: Bits takes no such body.
func noBits(t *testing.T, b []byte) {
	t.Helper()
	if got, u, e := der.Bits(b); len(got) != 0 || u != 0 || e != api.ErrDerValue {
		t.Fatalf("Bits(%x): %x, %d, %d, want ErrDerValue", b, got, u, e)
	}
}

func TestBits(t *testing.T) {
	noBits(t, nil)
	noBits(t, []byte{})
	if got, u, e := der.Bits([]byte{0}); len(got) != 0 || u != 0 || e != api.OK {
		t.Errorf("no bits: %x, %d, %d", got, u, e)
	}
	for u := 1; u < 256; u++ {
		noBits(t, []byte{byte(u)})
	}
	for u := range 256 {
		for last := range 256 {
			for _, ahead := range [][]byte{nil, {0xff}, {0, 1, 0xff}} {
				all := slices.Concat(ahead, []byte{byte(last)})
				b := slices.Concat([]byte{byte(u)}, all)
				if u > 7 || last%(1<<u) != 0 {
					noBits(t, b)
					continue
				}
				if got, n, e := der.Bits(b); !bytes.Equal(got, all) || n != u || e != api.OK {
					t.Fatalf("Bits(%x): %x, %d, %d", b, got, n, e)
				}
			}
		}
	}
}

// TestValuesAreNew: what comes out has its own memory, and what is handed in stays as it is.
func TestValuesAreNew(t *testing.T) {
	for _, whole := range [][]byte{{5, 6, 7, 8, 9}, {0, 0x85, 6, 7, 8, 9}, {3, 0x88, 0x88, 0x88, 9}, {0, 0x85}} {
		kept := bytes.Clone(whole)
		b := whole[:len(whole)-1]
		for _, f := range []func([]byte) []byte{
			func(b []byte) []byte { n, _ := der.Num(b); return n },
			func(b []byte) []byte { n, _, _ := der.Bits(b); return n },
			der.PutNum,
		} {
			got := f(b)
			told := bytes.Clone(got)
			clear(whole)
			if !bytes.Equal(got, told) {
				t.Fatalf("of %x: what was handed in is kept", kept)
			}
			copy(whole, kept)
			spoil(got)
			if !bytes.Equal(whole, kept) {
				t.Fatalf("what was handed in is %x now, and was %x", whole, kept)
			}
		}
	}
}
