package gcm_test

import (
	"encoding/binary"
	"math/rand"
	"testing"

	"drawbridge/gcm"
)

// one is the field's 1.
var one = [16]byte{0: 0x80}

// power is the block of x^n, n below 128.
func power(n int) [16]byte {
	var b [16]byte
	b[n/8] = 0x80 >> (n % 8)
	return b
}

func xor(a, b [16]byte) [16]byte {
	for i := range a {
		a[i] ^= b[i]
	}
	return a
}

// coefficients are those of a block, that of 1 first.
func coefficients(b [16]byte) []bool {
	out := make([]bool, 128)
	for i := range out {
		out[i] = b[i/8]>>(7-i%8)&1 == 1
	}
	return out
}

// rightMul multiplies all of it out, and takes what the modulus leaves only then.
func rightMul(a, b [16]byte) [16]byte {
	var all [255]bool
	for i, x := range coefficients(a) {
		for j, y := range coefficients(b) {
			all[i+j] = all[i+j] != (x && y)
		}
	}
	for n := len(all) - 1; n >= 128; n-- {
		if all[n] {
			for _, low := range []int{0, 1, 2, 7} {
				all[n-128+low] = !all[n-128+low]
			}
		}
	}
	var out [16]byte
	for n := range 128 {
		if all[n] {
			out = xor(out, power(n))
		}
	}
	return out
}

// rightHash is Hash as the document tells it, by the slow product.
func rightHash(h [16]byte, aside, text []byte) [16]byte {
	var all []byte
	for _, part := range [][]byte{aside, text} {
		all = append(all, part...)
		for len(all)%16 != 0 {
			all = append(all, 0)
		}
	}
	all = binary.BigEndian.AppendUint64(all, 8*uint64(len(aside)))
	all = binary.BigEndian.AppendUint64(all, 8*uint64(len(text)))
	var sum [16]byte
	for ; len(all) > 0; all = all[16:] {
		sum = rightMul(xor(sum, [16]byte(all[:16])), h)
	}
	return sum
}

func TestToldProducts(t *testing.T) {
	for _, c := range []struct{ a, b, want string }{
		{"0388dace60b6a392f328c2b971b2fe78", "66e94bd4ef8a2c3b884cfa59ca342b2e", "5e2ec746917062882c85b0685353deb7"},
		{"00000000000000000000000000000001", "40000000000000000000000000000000", "e1000000000000000000000000000000"},
		{"00000000000000000000000000000001", "00000000000000008000000000000000", "0000000000000001c200000000000000"},
		{"00000000000000010000000000000000", "40000000000000000000000000000000", "00000000000000008000000000000000"},
	} {
		a, b, want := blockOf(t, c.a), blockOf(t, c.b), blockOf(t, c.want)
		if rightMul(a, b) != want {
			t.Fatalf("the test's own product of %x and %x is %x, want %x", a, b, rightMul(a, b), want)
		}
		if got := gcm.Mul(a, b); got != want {
			t.Errorf("Mul(%x, %x): %x, want %x", a, b, got, want)
		}
	}
}

// TestProductsOfPowers: all products are sums of these, so that no bit of either side is left out.
func TestProductsOfPowers(t *testing.T) {
	for i := range 128 {
		for j := range 128 {
			got := gcm.Mul(power(i), power(j))
			if i+j < 128 && got != power(i+j) {
				t.Fatalf("x^%d by x^%d: %x", i, j, got)
			}
			if want := rightMul(power(i), power(j)); got != want {
				t.Fatalf("x^%d by x^%d: %x, want %x", i, j, got, want)
			}
		}
	}
}

func TestProductsOfAnyBlocks(t *testing.T) {
	r := rand.New(rand.NewSource(1))
	full := [16]byte{255, 255, 255, 255, 255, 255, 255, 255, 255, 255, 255, 255, 255, 255, 255, 255}
	edges := [][16]byte{{}, one, power(1), power(63), power(64), power(127), full}
	for range 300 {
		a, b := randomBlock(r), randomBlock(r)
		for _, edge := range edges {
			if got, want := gcm.Mul(a, edge), rightMul(a, edge); got != want {
				t.Fatalf("Mul(%x, %x): %x, want %x", a, edge, got, want)
			}
		}
		if got, want := gcm.Mul(a, b), rightMul(a, b); got != want {
			t.Fatalf("Mul(%x, %x): %x, want %x", a, b, got, want)
		}
	}
}

func TestField(t *testing.T) {
	r := rand.New(rand.NewSource(2))
	for range 2000 {
		a, b, c := randomBlock(r), randomBlock(r), randomBlock(r)
		if gcm.Mul(a, b) != gcm.Mul(b, a) {
			t.Fatalf("%x and %x: turned round it is another product", a, b)
		}
		if gcm.Mul(gcm.Mul(a, b), c) != gcm.Mul(a, gcm.Mul(b, c)) {
			t.Fatalf("%x, %x and %x: grouped otherwise it is another product", a, b, c)
		}
		if gcm.Mul(a, xor(b, c)) != xor(gcm.Mul(a, b), gcm.Mul(a, c)) {
			t.Fatalf("%x by %x and %x: it is not shared out", a, b, c)
		}
		if gcm.Mul(a, one) != a || gcm.Mul(one, a) != a {
			t.Fatalf("%x: by 1 it is another block", a)
		}
		if gcm.Mul(a, [16]byte{}) != [16]byte{} || gcm.Mul([16]byte{}, a) != [16]byte{} {
			t.Fatalf("%x: by 0 it is something", a)
		}
	}
}

// TestInverses: what is not 0 has a block by which its product is 1, its power 2^128 - 2.
func TestInverses(t *testing.T) {
	r := rand.New(rand.NewSource(3))
	for i := range 50 {
		a := randomBlock(r)
		if i < 8 {
			a = power(i * 127 / 7)
		}
		inverse, square := one, a
		for range 127 {
			square = gcm.Mul(square, square)
			inverse = gcm.Mul(inverse, square)
		}
		if gcm.Mul(a, inverse) != one {
			t.Fatalf("%x by %x: %x", a, inverse, gcm.Mul(a, inverse))
		}
	}
}

func TestToldHashes(t *testing.T) {
	for _, c := range []struct{ h, aside, text, want string }{
		{"66e94bd4ef8a2c3b884cfa59ca342b2e", "", "", "00000000000000000000000000000000"},
		{"66e94bd4ef8a2c3b884cfa59ca342b2e", "", "0388dace60b6a392f328c2b971b2fe78", "f38cbb1ad69223dcc3457ae5b6b0f885"},
		{"b83b533708bf535d0aa6e52980d53b78", "", "42831ec2217774244b7221b784d0d49ce3aa212f2c02a4e035c17e2329aca12e21d514b25466931c7d8f6a5aac84aa051ba30b396a0aac973d58e091473f5985", "7f1b32b81b820d02614f8895ac1d4eac"},
		{"b83b533708bf535d0aa6e52980d53b78", "feedfacedeadbeeffeedfacedeadbeefabaddad2", "42831ec2217774244b7221b784d0d49ce3aa212f2c02a4e035c17e2329aca12e21d514b25466931c7d8f6a5aac84aa051ba30b396a0aac973d58e091", "698e57f70e6ecc7fd9463b7260a9ae5f"},
	} {
		got := gcm.Hash(blockOf(t, c.h), unhex(t, c.aside), unhex(t, c.text))
		if want := blockOf(t, c.want); got != want {
			t.Errorf("h %s, aside %s, text %s: %x, want %x", c.h, c.aside, c.text, got, want)
		}
	}
}

// TestHashesOfAnyLengths: each length of aside and text about whole blocks, by which the filling up and the lengths show.
func TestHashesOfAnyLengths(t *testing.T) {
	r := rand.New(rand.NewSource(4))
	for aside := range 34 {
		for text := range 34 {
			h, a, b := randomBlock(r), random(r, aside), random(r, text)
			if got, want := gcm.Hash(h, a, b), rightHash(h, a, b); got != want {
				t.Fatalf("h %x, aside %x, text %x: %x, want %x", h, a, b, got, want)
			}
		}
	}
}

// TestHashOfOne: by 1 the hash is the XOR of the blocks, so that the last block is told as it is, with each side's number of bits.
func TestHashOfOne(t *testing.T) {
	for _, c := range []struct {
		aside, text int
		want        string
	}{
		{0, 0, "00000000000000000000000000000000"},
		{1, 0, "00000000000000080000000000000000"},
		{0, 1, "00000000000000000000000000000008"},
		{31, 32, "00000000000000f80000000000000100"},
		{8192, 8191, "0000000000010000000000000000fff8"},
		{1 << 21, 3 << 20, "00000000010000000000000001800000"},
	} {
		got := gcm.Hash(one, make([]byte, c.aside), make([]byte, c.text))
		if got != blockOf(t, c.want) {
			t.Errorf("%d and %d bytes: %x, want %s", c.aside, c.text, got, c.want)
		}
	}
	if got := gcm.Hash(one, []byte{1}, []byte{2, 3}); got != [16]byte{1 ^ 2, 3, 7: 8, 15: 16} {
		t.Errorf("blocks that are not whole: %x", got)
	}
}

func TestHashOfNought(t *testing.T) {
	if got := gcm.Hash([16]byte{}, []byte("aside"), []byte("a text")); got != [16]byte{} {
		t.Errorf("by 0: %x", got)
	}
}
