package edsig_test

import (
	"crypto/sha512"
	"math/big"
	"math/rand"
	"slices"
	"sync"
)

// place is a point by its two numbers, as the document has it.
type place struct{ x, y *big.Int }

// small is a small number.
func small(n int64) *big.Int { return big.NewInt(n) }

// power is 2^e.
func power(e uint) *big.Int { return new(big.Int).Lsh(small(1), e) }

// plus is x and a small number.
func plus(x *big.Int, n int64) *big.Int { return new(big.Int).Add(x, small(n)) }

// prime is 2^255 - 19. It, the order and d are worked out once: nobody changes them.
var prime = sync.OnceValue(func() *big.Int { return plus(power(255), -19) })

// order is L.
var order = sync.OnceValue(func() *big.Int {
	tail, _ := new(big.Int).SetString("27742317777372353535851937790883648493", 10)
	return tail.Add(tail, power(252))
})

// number is what bytes are, the lowest first.
func number(b []byte) *big.Int {
	high := slices.Clone(b)
	slices.Reverse(high)
	return new(big.Int).SetBytes(high)
}

// bytesOf are a number's bytes, the lowest first.
func bytesOf(x *big.Int) [32]byte {
	var b [32]byte
	x.FillBytes(b[:])
	slices.Reverse(b[:])
	return b
}

// left is what x leaves modulo the prime.
func left(x *big.Int) *big.Int { return new(big.Int).Mod(x, prime()) }

// times is the product of all, modulo the prime.
func times(all ...*big.Int) *big.Int {
	x := small(1)
	for _, y := range all {
		x = left(x.Mul(x, y))
	}
	return x
}

// inverse is that modulo the prime.
func inverse(x *big.Int) *big.Int { return new(big.Int).ModInverse(x, prime()) }

// curve is d.
var curve = sync.OnceValue(func() *big.Int { return times(small(-121665), inverse(small(121666))) })

// nowhere is the point that changes nothing.
func nowhere() place { return place{small(0), small(1)} }

// isPoint: is the curve's equation met?
func (p place) isPoint() bool {
	xx, yy := times(p.x, p.x), times(p.y, p.y)
	return left(new(big.Int).Sub(yy, xx)).Cmp(left(plus(times(curve(), xx, yy), 1))) == 0
}

// and is two points together, by the document's own words.
func (p place) and(q place) place {
	cross := times(curve(), p.x, q.x, p.y, q.y)
	x := new(big.Int).Add(times(p.x, q.y), times(q.x, p.y))
	y := new(big.Int).Add(times(p.y, q.y), times(p.x, q.x))
	return place{times(x, inverse(left(plus(cross, 1)))), times(y, inverse(left(plus(new(big.Int).Neg(cross), 1))))}
}

// so is a point n times, bit by bit.
func (p place) so(n *big.Int) place {
	sum := nowhere()
	for i := n.BitLen() - 1; i >= 0; i-- {
		sum = sum.and(sum)
		if n.Bit(i) == 1 {
			sum = sum.and(p)
		}
	}
	return sum
}

// minus is what takes a point back.
func (p place) minus() place { return place{left(new(big.Int).Neg(p.x)), p.y} }

// same: are both numbers the same?
func (p place) same(q place) bool { return p.x.Cmp(q.x) == 0 && p.y.Cmp(q.y) == 0 }

// bytes are a point's bytes.
func (p place) bytes() [32]byte {
	b := bytesOf(p.y)
	b[31] |= byte(p.x.Bit(0)) << 7
	return b
}

// told is the point that bytes tell, by the document's own words.
func told(b [32]byte) (place, bool) {
	top := uint(b[31] >> 7)
	b[31] &= 127
	y := number(b[:])
	if y.Cmp(prime()) >= 0 {
		return place{}, false
	}
	yy := times(y, y)
	x := new(big.Int).ModSqrt(times(plus(yy, -1), inverse(left(plus(times(curve(), yy), 1)))), prime())
	if x == nil || x.Sign() == 0 && top == 1 {
		return place{}, false
	}
	p := place{left(x), y}
	if p.x.Bit(0) != top {
		p = p.minus()
	}
	return p, true
}

// origin is B.
func origin() place {
	p, is := told(bytesOf(times(small(4), inverse(small(5)))))
	if !is {
		panic("there is no B")
	}
	return p
}

// sum512 is the number of a sum of parts.
func sum512(parts ...[]byte) *big.Int {
	h := sha512.Sum512(slices.Concat(parts...))
	return number(h[:])
}

// secretOf are a and the last 32 bytes of a seed's sum.
func secretOf(seed [32]byte) (*big.Int, []byte) {
	h := sha512.Sum512(seed[:])
	a := number(h[:32])
	for _, i := range []int{0, 1, 2, 255} {
		a.SetBit(a, i, 0)
	}
	return a.SetBit(a, 254, 1), h[32:]
}

// modelPublic is Public by the document's own words.
func modelPublic(seed [32]byte) [32]byte {
	a, _ := secretOf(seed)
	return origin().so(a).bytes()
}

// modelSign is Sign by the document's own words.
func modelSign(seed [32]byte, text []byte) [64]byte {
	a, tail := secretOf(seed)
	r := sum512(tail, text)
	r.Mod(r, order())
	first, public := origin().so(r).bytes(), modelPublic(seed)
	k := sum512(first[:], public[:], text)
	s := r.Add(r, k.Mul(k, a))
	return both(first, bytesOf(s.Mod(s, order())))
}

// modelVerify is Verify by the document's own words.
func modelVerify(public [32]byte, text []byte, sig [64]byte) bool {
	a, isA := told(public)
	r, isR := told([32]byte(sig[:32]))
	s := number(sig[32:])
	if !isA || !isR || s.Cmp(order()) >= 0 {
		return false
	}
	k := sum512(sig[:32], public[:], text)
	return origin().so(s).same(r.and(a.so(k.Mod(k, order()))))
}

// both are the halves of a signature.
func both(first, second [32]byte) [64]byte {
	return [64]byte(append(first[:], second[:]...))
}

// smallOrders are the eight points that come to nothing 8 times. The order of the curve is 8 L, so any point, L times, is one of them.
func smallOrders() []place {
	for y := int64(2); ; y++ {
		p, is := told(bytesOf(small(y)))
		if !is {
			continue
		}
		p = p.so(order())
		if p.so(small(4)).same(nowhere()) {
			continue
		}
		var all []place
		for n := range int64(8) {
			all = append(all, p.so(small(n)))
		}
		return all
	}
}

// drawn are any 32 bytes.
func drawn(r *rand.Rand) [32]byte { return [32]byte(drawnText(r, 32)) }

// drawnText are any n bytes.
func drawnText(r *rand.Rand, n int) []byte {
	b := make([]byte, n)
	r.Read(b)
	return b
}

// flipped are the same bytes with one bit turned.
func flipped(b []byte, bit int) []byte {
	b = slices.Clone(b)
	b[bit/8] ^= 1 << (bit % 8)
	return b
}
