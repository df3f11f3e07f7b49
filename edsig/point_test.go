package edsig_test

import (
	"bytes"
	"math/big"
	"math/rand"
	"testing"

	"drawbridge/edsig"
)

// tells: Point says what the model does, with the bit of an odd x and without; how many of both tell a point.
func tells(t *testing.T, y *big.Int) int {
	t.Helper()
	n := 0
	for _, bit := range []int{0, 255} {
		b := bytesOf(y)
		if bit != 0 {
			b = [32]byte(flipped(b[:], bit))
		}
		p, want := told(b)
		if got := edsig.Point(b); got != want {
			t.Fatalf("Point(%x): %v, want %v", b, got, want)
		}
		if want {
			n++
			if !p.isPoint() || p.bytes() != b {
				t.Fatalf("the model's point of %x is none", b)
			}
		}
	}
	return n
}

func TestPointExamples(t *testing.T) {
	if !edsig.Point([32]byte{}) || edsig.Point([32]byte{2}) {
		t.Error("Point of nought, or of 2")
	}
}

// TestPointsOfSmallNumbers: about every other y is a point's, and then with both bits.
func TestPointsOfSmallNumbers(t *testing.T) {
	count := tells(t, small(0)) + tells(t, small(1))
	for y := int64(2); y < 400; y++ {
		n, neg := tells(t, small(y)), tells(t, plus(prime(), -y))
		if n == 1 || n != neg {
			t.Fatalf("%d: %d tell a point, of its Neg %d", y, n, neg)
		}
		count += n + neg
	}
	if count < 600 || count > 1000 {
		t.Errorf("%d of 1600 tell a point", count)
	}
}

// TestPointsWithoutX: where x is 0 the bit may not be set.
func TestPointsWithoutX(t *testing.T) {
	for _, y := range []*big.Int{small(1), plus(prime(), -1)} {
		b := bytesOf(y)
		if !edsig.Point(b) || edsig.Point([32]byte(flipped(b[:], 255))) {
			t.Errorf("y = %x", y)
		}
		if tells(t, y) != 1 {
			t.Errorf("y = %x: not one of both", y)
		}
	}
}

// TestPointsAboveThePrime: none of all numbers from the prime on tells one, whatever it leaves.
func TestPointsAboveThePrime(t *testing.T) {
	for n := range int64(19) {
		if tells(t, plus(prime(), n)) != 0 {
			t.Errorf("the prime and %d", n)
		}
	}
	if edsig.Point([32]byte(bytes.Repeat([]byte{255}, 32))) {
		t.Error("all bits")
	}
}

func TestPointsOfDrawn(t *testing.T) {
	r := rand.New(rand.NewSource(11))
	for range 300 {
		y := number(drawnText(r, 32))
		tells(t, y.SetBit(y, 255, 0))
	}
	for e := range uint(255) {
		tells(t, power(e))
	}
}

// TestPointsOfSmallOrders: all eight are points.
func TestPointsOfSmallOrders(t *testing.T) {
	seen := map[[32]byte]int{}
	for i, p := range smallOrders() {
		seen[p.bytes()] = i
		if !edsig.Point(p.bytes()) {
			t.Errorf("%x is none", p.bytes())
		}
	}
	if len(seen) != 8 {
		t.Errorf("there are %d", len(seen))
	}
}

// TestWhatIsMadeIsAPoint: public keys, and the first halves of signatures.
func TestWhatIsMadeIsAPoint(t *testing.T) {
	r := rand.New(rand.NewSource(12))
	odd := 0
	for range 100 {
		seed := drawn(r)
		sig := edsig.Sign(seed, nil)
		public := edsig.Public(seed)
		if !edsig.Point(public) || !edsig.Point([32]byte(sig[:32])) {
			t.Fatalf("seed %x: no points", seed)
		}
		odd += int(public[31] >> 7)
	}
	if odd < 20 || odd > 80 {
		t.Errorf("%d of 100 have an odd x", odd)
	}
}
