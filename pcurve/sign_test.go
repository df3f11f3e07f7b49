package pcurve_test

import (
	"bytes"
	"crypto"
	"crypto/ecdsa"
	"crypto/elliptic"
	"crypto/sha256"
	"encoding/asn1"
	"math/big"
	"math/rand"
	"slices"
	"sync"
	"testing"

	"drawbridge/api"
	"drawbridge/pcurve"
)

// toldSecret is the number of RFC 6979's signatures with P-256.
func toldSecret() *big.Int {
	return hex("c9afa9d845ba75166b5c215767b1d6934e50c3db36e89b127b8a622b120f6721")
}

// public is the point of a number.
func public(d *big.Int) spot { return origin().so(d) }

// signed is what Sign makes, which must be OK and the model's.
func signed(t *testing.T, d *big.Int, sum []byte) (r, s *big.Int) {
	t.Helper()
	gotR, gotS, e := pcurve.Sign(num(d), sum)
	r, s, _ = modelSign(d, sum)
	if e != api.OK || gotR != num(r) || gotS != num(s) {
		t.Fatalf("Sign(%x, %x): %x, %x, %d, want %x, %x", d, sum, value(gotR), value(gotS), e, r, s)
	}
	return r, s
}

// holds: Verify says what is wanted, and the model too.
func holds(t *testing.T, want bool, p spot, sum []byte, r, s *big.Int) {
	t.Helper()
	if model := modelVerify(p, sum, r, s); model != want {
		t.Fatalf("the model of Verify(%v, %x, %x, %x): %v, want %v", p, sum, r, s, model, want)
	}
	if got := pcurve.Verify(p.point(), sum, num(r), num(s)); got != want {
		t.Fatalf("Verify(%v, %x, %x, %x): %v, want %v", p, sum, r, s, got, want)
	}
}

// edgeSums are sums at which something may go wrong: of all bits, of none, and about the order.
func edgeSums() [][]byte {
	var out [][]byte
	for _, z := range edgeNums() {
		out = append(out, bytesOf(z))
	}
	return out
}

// TestToldSignatures: those of RFC 6979, with SHA-256.
func TestToldSignatures(t *testing.T) {
	for _, c := range [][3]string{
		{"sample", "efd48b2aacb6a8fd1140dd9cd45e81d69d2c877b56aaf991c34d0ea84eaf3716", "f7cb1c942d657c41d436c7a1b6e29f65f3e900dbb9aff4064dc4ab2f843acda8"},
		{"test", "f1abb023518351cd71d881567b1ea663ed3efcf6c5132b354f28d3b0b7d38367", "019f4113742a2b14bd25926b49c649155f267e60d3814b4c0cc84250e46f0083"},
	} {
		sum := sha256.Sum256([]byte(c[0]))
		r, s := signed(t, toldSecret(), sum[:])
		if r.Cmp(hex(c[1])) != 0 || s.Cmp(hex(c[2])) != 0 {
			t.Errorf("of %q: %x, %x", c[0], r, s)
		}
		holds(t, true, public(toldSecret()), sum[:], r, s)
	}
}

// TestOnceMore: of this sum the first number is not below the order, as of one in 2^32, so the second one counts.
func TestOnceMore(t *testing.T) {
	sum := bytesOf(small(1376198122))
	r, s, turns := modelSign(toldSecret(), sum)
	if turns != 2 {
		t.Fatalf("the model took %d numbers", turns)
	}
	signed(t, toldSecret(), sum)
	holds(t, true, public(toldSecret()), sum, r, s)
	asTheLibrary(t, toldSecret(), sum)
}

func TestSignaturesAsTheModel(t *testing.T) {
	r := rand.New(rand.NewSource(30))
	for _, d := range rightNums(r, 10) {
		sum := drawnText(r, 32)
		first, second := signed(t, d, sum)
		holds(t, true, public(d), sum, first, second)
	}
	for _, sum := range edgeSums() {
		d := drawnRight(r)
		first, second := signed(t, d, sum)
		holds(t, true, public(d), sum, first, second)
	}
}

// asTheLibrary: the library signs likewise, and takes what Sign made.
func asTheLibrary(t *testing.T, d *big.Int, sum []byte) {
	t.Helper()
	key, err := ecdsa.ParseRawPrivateKey(elliptic.P256(), bytesOf(d))
	if err != nil {
		t.Fatal(err)
	}
	text, err := key.Sign(nil, sum, crypto.SHA256)
	if err != nil {
		t.Fatal(err)
	}
	var want struct{ R, S *big.Int }
	if _, err := asn1.Unmarshal(text, &want); err != nil {
		t.Fatal(err)
	}
	r, s, e := pcurve.Sign(num(d), sum)
	if e != api.OK || r != num(want.R) || s != num(want.S) {
		t.Fatalf("Sign(%x, %x): %x, %x, %d, want %x, %x", d, sum, value(r), value(s), e, want.R, want.S)
	}
	if !pcurve.Verify(pcurve.Mult(num(d), pcurve.Base()), sum, r, s) || !ecdsa.Verify(&key.PublicKey, sum, value(r), value(s)) {
		t.Fatalf("Verify of what Sign(%x, %x) made: false", d, sum)
	}
}

// TestItsOwn: Verify takes what Sign made, and the library signs likewise.
func TestItsOwn(t *testing.T) {
	r := rand.New(rand.NewSource(31))
	for _, d := range rightNums(r, 100) {
		asTheLibrary(t, d, drawnText(r, 32))
	}
	for _, sum := range edgeSums() {
		asTheLibrary(t, drawnRight(r), sum)
		asTheLibrary(t, small(1), sum)
	}
}

// TestNothingToSign: numbers and sums that may not be.
func TestNothingToSign(t *testing.T) {
	sum := make([]byte, 32)
	for _, d := range wrongNums() {
		unsigned(t, d, sum)
		unsigned(t, d, nil)
	}
	for n := range 100 {
		if n != 32 {
			unsigned(t, small(1), make([]byte, n))
			unsigned(t, small(0), make([]byte, n))
		}
	}
	unsigned(t, plus(order(), -1), nil)
}

// unsigned: Sign answers ErrCurveNum, and tells nothing.
func unsigned(t *testing.T, d *big.Int, sum []byte) {
	t.Helper()
	if r, s, e := pcurve.Sign(num(d), sum); r != (api.Num{}) || s != (api.Num{}) || e != api.ErrCurveNum {
		t.Fatalf("Sign(%x, %x): %x, %x, %d, want ErrCurveNum", d, sum, value(r), value(s), e)
	}
}

// TestTurnedBits: with any bit of the sum, of the signature or of the point turned nothing is taken.
func TestTurnedBits(t *testing.T) {
	rnd := rand.New(rand.NewSource(32))
	d, sum := drawnRight(rnd), drawnText(rnd, 32)
	p := public(d).point()
	r, s, _ := pcurve.Sign(num(d), sum)
	for i := range 256 {
		if pcurve.Verify(p, flipped(sum, i), r, s) {
			t.Fatalf("taken with bit %d of the sum turned", i)
		}
		if pcurve.Verify(p, sum, turned(r, i), s) || pcurve.Verify(p, sum, r, turned(s, i)) {
			t.Fatalf("taken with bit %d of the signature turned", i)
		}
		if pcurve.Verify(api.Point{X: turned(p.X, i), Y: p.Y}, sum, r, s) || pcurve.Verify(api.Point{X: p.X, Y: turned(p.Y, i)}, sum, r, s) {
			t.Fatalf("taken with bit %d of the point turned", i)
		}
	}
}

// TestOthers: a signature is of one sum and one number, and its halves have their places.
func TestOthers(t *testing.T) {
	rnd := rand.New(rand.NewSource(33))
	for range 5 {
		d, sum := drawnRight(rnd), drawnText(rnd, 32)
		r, s := signed(t, d, sum)
		holds(t, false, public(d), sum, s, r)
		holds(t, false, public(d), sum, r, r)
		holds(t, false, public(d), drawnText(rnd, 32), r, s)
		holds(t, false, public(d).minus(), sum, r, s)
		holds(t, false, drawnSpot(rnd), sum, r, s)
		holds(t, false, public(d), sum, drawnRight(rnd), drawnRight(rnd))
		// What takes the second half back tells the same X.
		holds(t, true, public(d), sum, r, left(new(big.Int).Neg(s), order()))
	}
}

// TestSignaturesThatMayNotBe: sums of another length, halves that are 0 or not below the order, points that are none.
func TestSignaturesThatMayNotBe(t *testing.T) {
	sum := drawnText(rand.New(rand.NewSource(34)), 32)
	r, s := signed(t, small(5), sum)
	p := public(small(5))
	for n := range 32 {
		holds(t, false, p, sum[:n], r, s)
		holds(t, false, p, sum[n+1:], r, s)
		holds(t, false, p, slices.Concat(sum, make([]byte, n+1)), r, s)
		holds(t, false, p, slices.Concat(make([]byte, n+1), sum), r, s)
	}
	holds(t, false, p, nil, r, s)
	for _, x := range wrongNums() {
		holds(t, false, p, sum, x, s)
		holds(t, false, p, sum, r, x)
		holds(t, false, p, sum, x, x)
	}
	for _, q := range append(beside(), nowhere()) {
		holds(t, false, q, sum, r, s)
	}
}

// TestNoughtsOfSums: a sum's noughts, ahead and behind, are bytes of it.
func TestNoughtsOfSums(t *testing.T) {
	sum := make([]byte, 32)
	sum[15], sum[16] = 1, 2
	r, s := signed(t, small(6), sum)
	p := public(small(6))
	holds(t, true, p, sum, r, s)
	for n := range 15 {
		holds(t, false, p, sum[:31-n], r, s)
		holds(t, false, p, sum[n+1:], r, s)
		holds(t, false, p, sum[n+1:31-n], r, s)
	}
}

// signer is the point with which r and s are a signature of z, if r is what the X of first leaves.
func signer(first spot, z, r, s *big.Int) spot {
	of := func(x *big.Int) *big.Int {
		return left(x.Mul(x, new(big.Int).ModInverse(r, order())), order())
	}
	return first.so(of(new(big.Int).Set(s))).and(origin().so(of(new(big.Int).Neg(z))))
}

// TestSmallHalves: halves, and sums, to which the order may be added within 256 bits: a half is told in one way alone, a sum counts by what it leaves.
func TestSmallHalves(t *testing.T) {
	for _, first := range lowXs()[1:] {
		for _, n := range []int64{1, 2, 77} {
			z, r, s := small(n+4), first.x, small(n)
			p, sum := signer(first, z, r, s), bytesOf(z)
			holds(t, true, p, sum, r, s)
			holds(t, false, p, sum, both(r, order()), s)
			holds(t, false, p, sum, r, both(s, order()))
			holds(t, false, p, sum, both(r, order()), both(s, order()))
			holds(t, true, p, bytesOf(both(z, order())), r, s)
			holds(t, false, p, bytesOf(plus(z, 1)), r, s)
		}
	}
}

// TestLowPoints: points of small X or Y sign nothing any more, where they are told with the prime more.
func TestLowPoints(t *testing.T) {
	rnd := rand.New(rand.NewSource(35))
	for i, p := range slices.Concat(lowXs(), lowYs()) {
		// With a, b for any numbers and Base a times and p b times for the first point, r is its X, s is r / b, z is a s.
		a, b := drawnRight(rnd), drawnRight(rnd)
		first := origin().so(a).and(p.so(b))
		r := left(first.x, order())
		s := new(big.Int).ModInverse(b, order())
		s = left(s.Mul(s, r), order())
		sum := bytesOf(left(new(big.Int).Mul(a, s), order()))
		holds(t, true, p, sum, r, s)
		if i < len(lowXs()) {
			holds(t, false, spot{false, both(p.x, prime()), p.y}, sum, r, s)
		} else {
			holds(t, false, spot{false, p.x, both(p.y, prime())}, sum, r, s)
		}
		holds(t, false, spot{true, p.x, p.y}, sum, r, s)
	}
}

// TestXAboveTheOrder: what counts is what X leaves modulo the order.
func TestXAboveTheOrder(t *testing.T) {
	for _, x := range []*big.Int{plus(order(), 1), plus(order(), 1000), plus(prime(), -50)} {
		first := from(x)
		if first.x.Cmp(prime()) >= 0 {
			t.Fatal("there is no such point")
		}
		r, s, z := left(first.x, order()), small(12345), small(6789)
		p := signer(first, z, r, s)
		holds(t, true, p, bytesOf(z), r, s)
		holds(t, false, p, bytesOf(z), first.x, s)
		holds(t, false, p, bytesOf(z), plus(r, 1), s)
	}
}

// TestSumsWithinVerify: where both parts are the same point, where one is Zero, and where they come to Zero together.
func TestSumsWithinVerify(t *testing.T) {
	rnd := rand.New(rand.NewSource(36))
	for range 5 {
		d, k := drawnRight(rnd), drawnRight(rnd)
		r := left(origin().so(k).x, order())
		half := left(new(big.Int).Mul(r, d), order())
		s := new(big.Int).ModInverse(k, order())
		s = left(s.Mul(s, both(half, half)), order())
		holds(t, true, public(d), bytesOf(half), r, s)
		holds(t, false, public(d), bytesOf(left(new(big.Int).Neg(half), order())), r, s)
		s = new(big.Int).ModInverse(k, order())
		s = left(s.Mul(s, half), order())
		holds(t, true, public(d), make([]byte, 32), r, s)
		holds(t, true, public(d), bytesOf(order()), r, s)
		holds(t, false, public(d), bytesOf(small(1)), r, s)
	}
}

// TestSpareRoom: a sum, and what stands about it, stay as they are, and are not kept.
func TestSpareRoom(t *testing.T) {
	all := drawnText(rand.New(rand.NewSource(37)), 96)
	held := slices.Clone(all)
	sum := all[32:64]
	r, s, e := pcurve.Sign(api.Num{9}, sum)
	if e != api.OK || !pcurve.Verify(public(small(9)).point(), sum, r, s) || !bytes.Equal(all, held) {
		t.Fatal("what was handed in is changed")
	}
	clear(all)
	if again, more, _ := pcurve.Sign(api.Num{9}, held[32:64:64]); again != r || more != s {
		t.Fatal("a sum is kept")
	}
}

// TestSameAnswers: an answer hangs on the arguments alone, however many ask at once and whatever was asked before.
func TestSameAnswers(t *testing.T) {
	sum := make([]byte, 32)
	p := public(small(77)).point()
	r, s, _ := modelSign(small(77), sum)
	var all sync.WaitGroup
	for n := range 8 {
		all.Go(func() {
			for i := range 5 {
				pcurve.Sign(api.Num{uint64(n + 1)}, bytes.Repeat([]byte{byte(i)}, 32))
				gotR, gotS, e := pcurve.Sign(api.Num{77}, sum)
				if e != api.OK || gotR != num(r) || gotS != num(s) || !pcurve.Verify(p, sum, gotR, gotS) {
					t.Error("another answer")
				}
				if pcurve.Mult(api.Num{77}, pcurve.Base()) != p {
					t.Error("another point")
				}
			}
		})
	}
	all.Wait()
}
