package chacha_test

import (
	"bytes"
	"encoding/hex"
	"math/big"
	"math/rand"
	"slices"
	"testing"

	"drawbridge/chacha"
)

// power is 2^n.
func power(n uint) *big.Int { return new(big.Int).Lsh(big.NewInt(1), n) }

// prime is 2^130 - 5.
func prime() *big.Int { return new(big.Int).Sub(power(130), big.NewInt(5)) }

// bigOf is the number of bytes, the lowest first.
func bigOf(b []byte) *big.Int {
	turned := bytes.Clone(b)
	slices.Reverse(turned)
	return new(big.Int).SetBytes(turned)
}

// bytes16 is a number modulo 2^128 as bytes, the lowest first.
func bytes16(n *big.Int) [16]byte {
	var b [16]byte
	new(big.Int).Mod(n, power(128)).FillBytes(b[:])
	slices.Reverse(b[:])
	return b
}

// rightR is r of a key.
func rightR(key [32]byte) *big.Int {
	b := bytes.Clone(key[:16])
	for _, i := range []int{3, 7, 11, 15} {
		b[i] %= 16
	}
	for _, i := range []int{4, 8, 12} {
		b[i] -= b[i] % 4
	}
	return bigOf(b)
}

// rightStep is what a sum becomes by a piece.
func rightStep(key [32]byte, sum *big.Int, piece []byte) *big.Int {
	n := bigOf(append(bytes.Clone(piece), 1))
	n.Add(n, sum)
	n.Mul(n, rightR(key))
	return n.Mod(n, prime())
}

// rightEnd is the code that a sum makes.
func rightEnd(key [32]byte, sum *big.Int) [16]byte {
	return bytes16(new(big.Int).Add(sum, bigOf(key[16:])))
}

// rightPoly is the code of a text, told straight from the document.
func rightPoly(key [32]byte, text []byte) [16]byte {
	sum := new(big.Int)
	for len(text) > 0 {
		n := min(16, len(text))
		sum = rightStep(key, sum, text[:n])
		text = text[n:]
	}
	return rightEnd(key, sum)
}

func wantPoly(t *testing.T, key [32]byte, text []byte) {
	t.Helper()
	if got, want := chacha.Poly(key, text), rightPoly(key, text); got != want {
		t.Fatalf("key %x, text %x: %x, want %x", key, text, got, want)
	}
}

const (
	nought = "00000000000000000000000000000000"
	full   = "ffffffffffffffffffffffffffffffff"
	two    = "02000000000000000000000000000000"
	sparse = "01000000000000000400000000000000"
	drift  = "e33594d7505e43b900000000000000003394d7505e4379cd01000000000000000000000000000000000000000000000001000000000000000000000000000000"
)

// Codes that RFC 8439 tells; the later ones are those where sums go about the prime.
func TestToldCodes(t *testing.T) {
	for _, c := range []struct{ key, text, want string }{
		{nought + nought, nought + nought, nought},
		{"85d6be7857556d337f4452fe42d506a80103808afb0db2fd4abff6af4149f51b", hex.EncodeToString([]byte("Cryptographic Forum Research Group")), "a8061dc1305136c6c22b8baf0c0127a9"},
		{two + nought, full, "03000000000000000000000000000000"},
		{two + full, two, "03000000000000000000000000000000"},
		{"01000000000000000000000000000000" + nought, full + "f0ffffffffffffffffffffffffffffff" + "11000000000000000000000000000000", "05000000000000000000000000000000"},
		{"01000000000000000000000000000000" + nought, full + "fbfefefefefefefefefefefefefefefe" + "01010101010101010101010101010101", nought},
		{two + nought, "fdffffffffffffffffffffffffffffff", "faffffffffffffffffffffffffffffff"},
		{sparse + nought, drift, "14000000000000005500000000000000"},
		{sparse + nought, drift[:96], "13000000000000000000000000000000"},
	} {
		got := chacha.Poly([32]byte(unhex(t, c.key)), unhex(t, c.text))
		if hex.EncodeToString(got[:]) != c.want {
			t.Errorf("key %s, text %s: %x, want %s", c.key, c.text, got, c.want)
		}
	}
}

func TestPolyOfNoughts(t *testing.T) {
	r := rand.New(rand.NewSource(5))
	for n := range 100 {
		if got := chacha.Poly([32]byte{}, random(r, n)); got != [16]byte{} {
			t.Errorf("%d bytes under noughts: %x", n, got)
		}
	}
}

// TestPolyOfNothing: the code of nothing is s, whatever r is.
func TestPolyOfNothing(t *testing.T) {
	r := rand.New(rand.NewSource(6))
	for range 50 {
		key := randomKey(r)
		for _, none := range [][]byte{nil, {}, make([]byte, 0, 16)} {
			if got := chacha.Poly(key, none); got != [16]byte(key[16:]) {
				t.Fatalf("key %x: %x", key, got)
			}
		}
	}
}

func TestCodesOfAnyLengths(t *testing.T) {
	r := rand.New(rand.NewSource(7))
	for n := range 150 {
		for range 20 {
			wantPoly(t, randomKey(r), random(r, n))
		}
	}
	wantPoly(t, randomKey(r), random(r, 1<<18+3))
}

// TestGreatCodes: keys and texts of the greatest bytes, and of few bits, where carries go far.
func TestGreatCodes(t *testing.T) {
	r := rand.New(rand.NewSource(8))
	odd := []byte{0, 1, 0x7f, 0x80, 0xfb, 0xfe, 0xff, 0xff}
	some := func(n int) []byte {
		b := make([]byte, n)
		for i := range b {
			b[i] = odd[r.Intn(len(odd))]
		}
		return b
	}
	for n := range 100 {
		most := bytes.Repeat([]byte{255}, n)
		wantPoly(t, [32]byte(bytes.Repeat([]byte{255}, 32)), most)
		wantPoly(t, [32]byte{0: 1}, most)
		wantPoly(t, [32]byte{0: 2}, most)
		wantPoly(t, [32]byte(some(32)), most)
		for range 20 {
			wantPoly(t, [32]byte(some(32)), some(n))
		}
	}
	wantPoly(t, [32]byte(bytes.Repeat([]byte{255}, 32)), bytes.Repeat([]byte{255}, 1<<16))
}

// pieces are bytes of a text that adds a number up if r is 1: each piece counts 2^128 more than it has, at most 2^129 - 1.
func pieces(total *big.Int) []byte {
	var all []byte
	left := new(big.Int).Set(total)
	for left.Sign() > 0 {
		n := new(big.Int).Sub(power(129), big.NewInt(1))
		if left.Cmp(n) <= 0 {
			n = left
		} else if rest := new(big.Int).Sub(left, n); rest.Cmp(power(128)) < 0 {
			n = new(big.Int).Sub(left, power(128))
		}
		b := bytes16(n)
		all = append(all, b[:]...)
		left = new(big.Int).Sub(left, n)
	}
	return all
}

// TestAboutThePrime: sums just below the prime, it itself, and just above, once and more often, with each kind of s.
func TestAboutThePrime(t *testing.T) {
	r := rand.New(rand.NewSource(9))
	for _, times := range []int64{1, 2, 3, 7} {
		for d := int64(-40); d <= 40; d++ {
			total := new(big.Int).Mul(prime(), big.NewInt(times))
			total.Add(total, big.NewInt(d))
			text := pieces(total)
			want := new(big.Int).Mod(total, prime())
			key := [32]byte{0: 1}
			if got := chacha.Poly(key, text); got != bytes16(want) {
				t.Fatalf("%d primes and %d: %x, want %x", times, d, got, bytes16(want))
			}
			for _, s := range [][]byte{bytes.Repeat([]byte{255}, 16), append([]byte{5}, make([]byte, 15)...), random(r, 16)} {
				copy(key[16:], s)
				if got, right := chacha.Poly(key, text), rightEnd(key, want); got != right {
					t.Fatalf("%d primes and %d, s %x: %x, want %x", times, d, s, got, right)
				}
			}
		}
	}
}

// TestBitsOfTheKey: 22 bits of r are left out, all others count, each at its place.
func TestBitsOfTheKey(t *testing.T) {
	left := map[int]bool{}
	for _, i := range []int{3, 7, 11, 15} {
		for bit := 4; bit < 8; bit++ {
			left[8*i+bit] = true
		}
	}
	for _, i := range []int{4, 8, 12} {
		left[8*i], left[8*i+1] = true, true
	}
	if len(left) != 22 {
		t.Fatal(len(left))
	}
	r := rand.New(rand.NewSource(10))
	for range 5 {
		key, text := randomKey(r), random(r, 40)
		code := chacha.Poly(key, text)
		for bit := range 256 {
			key[bit/8] ^= 1 << (bit % 8)
			wantPoly(t, key, text)
			if same := chacha.Poly(key, text) == code; same != left[bit] {
				t.Fatalf("bit %d of the key: the same is %v", bit, same)
			}
			key[bit/8] ^= 1 << (bit % 8)
		}
	}
	// The number of a bit alone, by the one piece of one byte 0: 256 times r.
	for bit := range 128 {
		var key [32]byte
		key[bit/8] = 1 << (bit % 8)
		wantPoly(t, key, []byte{0})
		wantPoly(t, key, nil)
	}
}

// P9.4: piece by piece, each whole one makes of the sum what it does whatever comes behind it.
func TestPieceByPiece(t *testing.T) {
	r := rand.New(rand.NewSource(11))
	for range 60 {
		key, text := randomKey(r), random(r, 16*12)
		sum := new(big.Int)
		for from := 0; from < len(text); from += 16 {
			for n := 1; n <= 16; n++ {
				want := rightEnd(key, rightStep(key, sum, text[from:from+n]))
				if got := chacha.Poly(key, text[:from+n]); got != want {
					t.Fatalf("key %x, text %x: %x, want %x", key, text[:from+n], got, want)
				}
			}
			sum = rightStep(key, sum, text[from:from+16])
		}
	}
}

// TestPiecesByOne: with r = 1 and no s the code is the sum of the codes of the pieces, modulo the prime.
func TestPiecesByOne(t *testing.T) {
	r := rand.New(rand.NewSource(12))
	key := [32]byte{0: 1}
	for n := range 200 {
		text := random(r, n)
		sum := new(big.Int)
		for piece := range slices.Chunk(text, 16) {
			code := chacha.Poly(key, piece)
			sum.Add(sum, bigOf(code[:]))
			if len(piece) == 16 {
				sum.Add(sum, power(128))
			}
		}
		if got, want := chacha.Poly(key, text), bytes16(sum.Mod(sum, prime())); got != want {
			t.Fatalf("text %x: %x, want %x", text, got, want)
		}
	}
}

// TestNoughtsCount: texts of noughts of unlike lengths have unlike codes.
func TestNoughtsCount(t *testing.T) {
	r := rand.New(rand.NewSource(13))
	key := randomKey(r)
	seen := map[[16]byte]int{}
	for n := range 130 {
		seen[chacha.Poly(key, make([]byte, n))] = n
		wantPoly(t, key, make([]byte, n))
	}
	if len(seen) != 130 {
		t.Errorf("%d codes are unlike", len(seen))
	}
}
