package pcurve_test

import (
	"bytes"
	"crypto/ecdh"
	"math/big"
	"math/rand"
	"slices"
	"testing"

	"drawbridge/api"
	"drawbridge/pcurve"
)

// refused: Decode takes no such bytes, and tells nothing.
func refused(t *testing.T, b []byte) {
	t.Helper()
	if p, e := pcurve.Decode(b); p != (api.Point{}) || e != api.ErrCurvePoint {
		t.Fatalf("Decode(%x): %v, %d, want ErrCurvePoint", b, spotOf(p), e)
	}
}

// told are the bytes of an X and a Y, whatever they are.
func told(x, y *big.Int) []byte { return slices.Concat([]byte{4}, bytesOf(x), bytesOf(y)) }

func TestBytesOfPoints(t *testing.T) {
	r := rand.New(rand.NewSource(20))
	all := edgeSpots()[1:]
	for range 50 {
		all = append(all, drawnSpot(r))
	}
	for _, p := range all {
		b := pcurve.Encode(p.point())
		if !bytes.Equal(b, told(p.x, p.y)) {
			t.Fatalf("Encode(%v): %x", p, b)
		}
		if back, e := pcurve.Decode(b); back != p.point() || e != api.OK {
			t.Fatalf("Decode(%x): %v, %d", b, spotOf(back), e)
		}
		if _, err := ecdh.P256().NewPublicKey(b); err != nil {
			t.Fatalf("Encode(%v): %x, of which the library says: %v", p, b, err)
		}
	}
}

// TestBytesOfNoPoint: of Zero, and of what does not lie on the curve, there are none.
func TestBytesOfNoPoint(t *testing.T) {
	for _, p := range append(beside(), nowhere()) {
		if b := pcurve.Encode(p.point()); len(b) != 0 {
			t.Fatalf("Encode(%v): %x", p, b)
		}
		if !p.zero {
			refused(t, told(p.x, p.y))
		}
	}
}

// TestBytesThatTellNone: bytes of another length, of another kind, and with a bit turned.
func TestBytesThatTellNone(t *testing.T) {
	refused(t, bytes.Repeat([]byte{4}, 65))
	refused(t, nil)
	b := pcurve.Encode(pcurve.Base())
	for n := range 65 {
		refused(t, b[:n])
		refused(t, b[65-n:])
		refused(t, make([]byte, n))
	}
	for _, more := range []int{1, 2, 31, 32, 64, 65, 1000} {
		refused(t, slices.Concat(b, make([]byte, more)))
		refused(t, slices.Concat(make([]byte, more), b))
	}
	for kind := range 256 {
		if kind != 4 {
			refused(t, slices.Concat([]byte{byte(kind)}, b[1:]))
		}
		refused(t, slices.Concat([]byte{byte(kind)}, b[1:33]))
		refused(t, bytes.Repeat([]byte{byte(kind)}, 65))
	}
	for i := range 65 * 8 {
		refused(t, flipped(b, i))
	}
}

// TestBytesAreNew: what comes out has its own memory, spare room and all, and what is handed in stays as it is.
func TestBytesAreNew(t *testing.T) {
	p := pcurve.Base()
	one, other := pcurve.Encode(p), pcurve.Encode(p)
	held := slices.Clone(other)
	for i := range one[:cap(one)] {
		one[:cap(one)][i] = 77
	}
	if !bytes.Equal(other, held) || !bytes.Equal(pcurve.Encode(p), held) {
		t.Error("two answers share memory")
	}
	all := slices.Concat([]byte{1, 2, 3}, held, []byte{4, 5, 6})
	kept := slices.Clone(all)
	got, e := pcurve.Decode(all[3:68])
	if got != p || e != api.OK || !bytes.Equal(all, kept) {
		t.Error("what was handed in is changed")
	}
	clear(all)
	if got != p {
		t.Error("what was handed in is kept")
	}
}

// secret is what Shared makes, which must be OK.
func secret(t *testing.T, d *big.Int, p api.Point) [32]byte {
	t.Helper()
	s, e := pcurve.Shared(num(d), p)
	if e != api.OK {
		t.Fatalf("Shared(%x, %v): %d", d, spotOf(p), e)
	}
	return s
}

// rightNums are numbers that are not 0 and below the order: edges, and some that are drawn.
func rightNums(r *rand.Rand, n int) []*big.Int {
	var out []*big.Int
	for _, d := range edgeNums() {
		if right(d) {
			out = append(out, d)
		}
	}
	for range n {
		out = append(out, drawnRight(r))
	}
	return out
}

// wrongNums are those that are 0 or not below the order.
func wrongNums() []*big.Int {
	var out []*big.Int
	for _, d := range edgeNums() {
		if !right(d) {
			out = append(out, d)
		}
	}
	return out
}

// TestSharedAsTheModel: of each number, with points at the edges too, it is the X.
func TestSharedAsTheModel(t *testing.T) {
	r := rand.New(rand.NewSource(21))
	for _, d := range rightNums(r, 10) {
		p := drawnSpot(r)
		if got, want := secret(t, d, p.point()), bytesOf(p.so(d).x); !bytes.Equal(got[:], want) {
			t.Fatalf("Shared(%x, %v): %x, want %x", d, p, got, want)
		}
	}
	for _, p := range edgeSpots()[1:] {
		d := drawnRight(r)
		if got, want := secret(t, d, p.point()), bytesOf(p.so(d).x); !bytes.Equal(got[:], want) {
			t.Fatalf("Shared(%x, %v): %x, want %x", d, p, got, want)
		}
		if got, want := secret(t, small(1), p.point()), bytesOf(p.x); !bytes.Equal(got[:], want) {
			t.Fatalf("Shared(1, %v): %x", p, got)
		}
	}
}

func TestSharedAsTheLibrary(t *testing.T) {
	r := rand.New(rand.NewSource(22))
	for range 200 {
		d, p := drawnRight(r), pcurve.Mult(num(drawnRight(r)), pcurve.Base())
		mine, err := ecdh.P256().NewPrivateKey(bytesOf(d))
		if err != nil {
			t.Fatal(err)
		}
		yours, err := ecdh.P256().NewPublicKey(pcurve.Encode(p))
		if err != nil {
			t.Fatal(err)
		}
		want, err := mine.ECDH(yours)
		if got := secret(t, d, p); err != nil || !bytes.Equal(got[:], want) {
			t.Fatalf("Shared(%x, %v): %x, want %x, %v", d, spotOf(p), got, want, err)
		}
	}
}

// TestBothHaveIt: whoever reckons the secret, it is the same; a third one has another.
func TestBothHaveIt(t *testing.T) {
	r := rand.New(rand.NewSource(23))
	numbers := rightNums(r, 6)
	var points []api.Point
	for _, d := range numbers {
		points = append(points, pcurve.Mult(num(d), pcurve.Base()))
	}
	for i, d := range numbers {
		for j, other := range numbers[:i+1] {
			if (i+j)%4 == 0 && secret(t, d, points[j]) != secret(t, other, points[i]) {
				t.Fatalf("%x, %x: both have not the same", d, other)
			}
		}
	}
	for range 20 {
		a, b, c := drawnRight(r), drawnRight(r), pcurve.Mult(num(drawnRight(r)), pcurve.Base())
		if secret(t, a, c) == secret(t, b, c) {
			t.Fatalf("%x and %x have the same", a, b)
		}
	}
}

// TestSharedOfNothing: the number is asked for first, then the point.
func TestSharedOfNothing(t *testing.T) {
	none := append(beside(), nowhere())
	for i, d := range wrongNums() {
		for _, p := range []api.Point{pcurve.Base(), none[i%len(none)].point(), zero()} {
			if s, e := pcurve.Shared(num(d), p); s != [32]byte{} || e != api.ErrCurveNum {
				t.Fatalf("Shared(%x, %v): %x, %d, want ErrCurveNum", d, spotOf(p), s, e)
			}
		}
	}
	for _, p := range none {
		for _, d := range []*big.Int{small(1), small(2), plus(order(), -1)} {
			if s, e := pcurve.Shared(num(d), p.point()); s != [32]byte{} || e != api.ErrCurvePoint {
				t.Fatalf("Shared(%x, %v): %x, %d, want ErrCurvePoint", d, p, s, e)
			}
		}
	}
}
