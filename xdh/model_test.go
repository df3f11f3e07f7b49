package xdh_test

import (
	"encoding/hex"
	"math/big"
	"math/rand"
	"slices"
	"testing"
)

// unhex are 32 bytes by their digits.
func unhex(t *testing.T, s string) [32]byte {
	t.Helper()
	b, err := hex.DecodeString(s)
	if err != nil || len(b) != 32 {
		t.Fatalf("%q: %d bytes, %v", s, len(b), err)
	}
	return [32]byte(b)
}

// number is what bytes are, the lowest first.
func number(b [32]byte) *big.Int {
	slices.Reverse(b[:])
	return new(big.Int).SetBytes(b[:])
}

// bytesOf are a number's bytes, the lowest first.
func bytesOf(x *big.Int) [32]byte {
	var b [32]byte
	x.FillBytes(b[:])
	slices.Reverse(b[:])
	return b
}

// power is 2^e.
func power(e uint) *big.Int { return new(big.Int).Lsh(big.NewInt(1), e) }

// plus is x and a small number.
func plus(x *big.Int, n int64) *big.Int { return new(big.Int).Add(x, big.NewInt(n)) }

// prime is 2^255 - 19.
func prime() *big.Int { return plus(power(255), -19) }

// flipped are the same bytes with one bit turned.
func flipped(b [32]byte, bit int) [32]byte {
	b[bit/8] ^= 1 << (bit % 8)
	return b
}

// model is Mult by the document's own words, with the library's numbers.
func model(k, u [32]byte) [32]byte {
	m := prime()
	add := func(x, y *big.Int) *big.Int { z := new(big.Int).Add(x, y); return z.Mod(z, m) }
	sub := func(x, y *big.Int) *big.Int { z := new(big.Int).Sub(x, y); return z.Mod(z, m) }
	mul := func(x, y *big.Int) *big.Int { z := new(big.Int).Mul(x, y); return z.Mod(z, m) }

	n := number(k)
	for _, i := range []int{0, 1, 2, 255} {
		n.SetBit(n, i, 0)
	}
	n.SetBit(n, 254, 1)
	x := number(u)
	x.SetBit(x, 255, 0)
	x.Mod(x, m)

	a, b, c, d := big.NewInt(1), big.NewInt(0), x, big.NewInt(1)
	for i := 254; i >= 0; i-- {
		t := n.Bit(i)
		if t == 1 {
			a, b, c, d = c, d, a, b
		}
		p := mul(add(a, b), add(a, b))
		q := mul(sub(a, b), sub(a, b))
		e := sub(p, q)
		v := mul(sub(c, d), add(a, b))
		w := mul(add(c, d), sub(a, b))
		c, d = mul(add(v, w), add(v, w)), mul(x, mul(sub(v, w), sub(v, w)))
		a, b = mul(p, q), mul(e, add(p, mul(big.NewInt(121665), e)))
		if t == 1 {
			a, b, c, d = c, d, a, b
		}
	}
	// By Fermat 0 has the inverse 0, as the field's Inv has it.
	return bytesOf(mul(a, new(big.Int).Exp(b, plus(m, -2), m)))
}

// smallOrders are all numbers below 2^255 that tell a point whose multiples by 8 have no x: by what they leave, and those at or above the prime too.
func smallOrders() []*big.Int {
	var out []*big.Int
	for _, s := range []string{
		"0",
		"1",
		"325606250916557431795983626356110631294008115727848805560023387167927233504",
		"39382357235489614581723060781553021112529911719440698176882885853963445705823",
		"57896044618658097711785492504343953926634992332820282019728792003956564819948",
	} {
		x, _ := new(big.Int).SetString(s, 10)
		out = append(out, x)
		if above := new(big.Int).Add(x, prime()); above.BitLen() <= 255 {
			out = append(out, above)
		}
	}
	return out
}

// edgePoints are numbers at which something may go wrong: of few bits, of a small order, and all those at or above the prime.
func edgePoints() [][32]byte {
	all := smallOrders()
	for n := range int64(20) {
		all = append(all, big.NewInt(n), plus(prime(), n-1))
	}
	for _, e := range []uint{63, 64, 127, 128, 191, 192, 253, 254} {
		all = append(all, power(e), plus(power(e), -1))
	}
	var out [][32]byte
	for _, x := range all {
		b := bytesOf(x)
		out = append(out, b, flipped(b, 255))
	}
	return out
}

// edgeSecrets are secrets of no bits, of one, of all, and of all but one.
func edgeSecrets() [][32]byte {
	var none, all [32]byte
	for i := range all {
		all[i] = 255
	}
	out := [][32]byte{none, all}
	for _, i := range []int{0, 2, 3, 63, 64, 127, 128, 191, 192, 253, 254, 255} {
		out = append(out, flipped(none, i), flipped(all, i))
	}
	return out
}

// drawn are any 32 bytes.
func drawn(r *rand.Rand) [32]byte {
	var b [32]byte
	r.Read(b[:])
	return b
}
