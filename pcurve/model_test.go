package pcurve_test

import (
	"bytes"
	"crypto/hmac"
	"crypto/sha256"
	"fmt"
	"math/big"
	"math/rand"
	"slices"

	"drawbridge/api"
)

// hex is a number that is written so.
func hex(s string) *big.Int {
	x, ok := new(big.Int).SetString(s, 16)
	if !ok {
		panic(s)
	}
	return x
}

func small(n int64) *big.Int { return big.NewInt(n) }

// power is 2^e.
func power(e uint) *big.Int { return new(big.Int).Lsh(small(1), e) }

// plus is x and a small number.
func plus(x *big.Int, n int64) *big.Int { return new(big.Int).Add(x, small(n)) }

// both is x and y.
func both(x, y *big.Int) *big.Int { return new(big.Int).Add(x, y) }

// top is the greatest number that digits tell.
func top() *big.Int { return plus(power(256), -1) }

// prime is what all is reckoned by, but where the order is named.
func prime() *big.Int {
	m := new(big.Int).Sub(power(256), power(224))
	return plus(m.Add(m, both(power(192), power(96))), -1)
}

// order is N.
func order() *big.Int {
	return hex("ffffffff00000000ffffffffffffffffbce6faada7179e84f3b9cac2fc632551")
}

// left is what x leaves modulo m.
func left(x, m *big.Int) *big.Int { return new(big.Int).Mod(x, m) }

// num is a number below 2^256 by its digits.
func num(x *big.Int) api.Num {
	if x.Sign() < 0 || x.BitLen() > 256 {
		panic("no number of 256 bits: " + x.String())
	}
	var a api.Num
	for i := range a {
		digit := new(big.Int).Rsh(x, uint(64*i))
		a[i] = digit.And(digit, plus(power(64), -1)).Uint64()
	}
	return a
}

// value is what digits say.
func value(a api.Num) *big.Int {
	x := new(big.Int)
	for i := range a {
		x.Lsh(x, 64)
		x.Or(x, new(big.Int).SetUint64(a[3-i]))
	}
	return x
}

// bytesOf are a number's 32 bytes, the highest first.
func bytesOf(x *big.Int) []byte { return x.FillBytes(make([]byte, 32)) }

// spot is a point, with x and y but where it is zero.
type spot struct {
	zero bool
	x, y *big.Int
}

// nowhere is Zero.
func nowhere() spot { return spot{true, new(big.Int), new(big.Int)} }

// origin is Base.
func origin() spot {
	return spot{false, hex("6b17d1f2e12c4247f8bce6e563a440f277037d812deb33a0f4a13945d898c296"), hex("4fe342e2fe1a7f9b8ee7eb4a7c0f9e162bce33576b315ececbb6406837bf51f5")}
}

// point is a spot as the program has it.
func (p spot) point() api.Point { return api.Point{Zero: p.zero, X: num(p.x), Y: num(p.y)} }

// spotOf is a point of the program as the model has it.
func spotOf(p api.Point) spot { return spot{p.Zero, value(p.X), value(p.Y)} }

// String tells a spot where a test fails.
func (p spot) String() string { return fmt.Sprintf("(%v, %x, %x)", p.zero, p.x, p.y) }

// under is what stands under the root of a point with that x.
func under(x *big.Int) *big.Int {
	y := new(big.Int).Exp(x, small(3), nil)
	y.Sub(y, new(big.Int).Mul(small(3), x))
	return left(y.Add(y, hex("5ac635d8aa3a93e7b3ebbd55769886bc651d06b0cc53b0f63bce3c3e27d2604b")), prime())
}

// lies: does it lie on the curve?
func (p spot) lies() bool {
	if p.zero {
		return p.x.Sign() == 0 && p.y.Sign() == 0
	}
	yy := new(big.Int).Mul(p.y, p.y)
	return p.x.Cmp(prime()) < 0 && p.y.Cmp(prime()) < 0 && left(yy, prime()).Cmp(under(p.x)) == 0
}

// same: are both numbers the same?
func (p spot) same(q spot) bool {
	return p.zero == q.zero && p.x.Cmp(q.x) == 0 && p.y.Cmp(q.y) == 0
}

// minus is what takes a point back.
func (p spot) minus() spot { return spot{p.zero, p.x, left(new(big.Int).Neg(p.y), prime())} }

// and is two points of the curve together, by the document's own words.
func (p spot) and(q spot) spot {
	switch {
	case p.zero:
		return q
	case q.zero:
		return p
	case p.x.Cmp(q.x) == 0 && p.y.Cmp(q.y) != 0, p.same(q) && p.y.Sign() == 0:
		return nowhere()
	}
	above, below := new(big.Int).Sub(q.y, p.y), new(big.Int).Sub(q.x, p.x)
	if p.same(q) {
		above.Mul(p.x, p.x)
		above.Mul(small(3), plus(above, -1))
		below.Mul(small(2), p.y)
	}
	m := above.Mul(above, new(big.Int).ModInverse(left(below, prime()), prime()))
	x := new(big.Int).Mul(m, m)
	x = left(x.Sub(x, both(p.x, q.x)), prime())
	y := new(big.Int).Mul(m, new(big.Int).Sub(p.x, x))
	return spot{false, x, left(y.Sub(y, p.y), prime())}
}

// so is a point n times, bit by bit.
func (p spot) so(n *big.Int) spot {
	sum := nowhere()
	for i := n.BitLen() - 1; i >= 0; i-- {
		sum = sum.and(sum)
		if n.Bit(i) == 1 {
			sum = sum.and(p)
		}
	}
	return sum
}

// at is a point with that x, if there is one.
func at(x *big.Int) (spot, bool) {
	y := new(big.Int).ModSqrt(under(x), prime())
	if y == nil {
		return spot{}, false
	}
	return spot{false, x, y}, true
}

// from is the first point with that x or a greater one.
func from(x *big.Int) spot {
	for {
		if p, is := at(x); is {
			return p
		}
		x = plus(x, 1)
	}
}

// code is one under a key.
func code(key []byte, parts ...[]byte) []byte {
	h := hmac.New(sha256.New, key)
	h.Write(slices.Concat(parts...))
	return h.Sum(nil)
}

// right: is it not 0, and below the order?
func right(x *big.Int) bool { return x.Sign() > 0 && x.Cmp(order()) < 0 }

// modelSign is Sign by the document's own words, and how many numbers k there were.
func modelSign(d *big.Int, sum []byte) (r, s *big.Int, turns int) {
	z := left(new(big.Int).SetBytes(sum), order())
	v, key := bytes.Repeat([]byte{1}, 32), make([]byte, 32)
	key = code(key, v, []byte{0}, bytesOf(d), bytesOf(z))
	v = code(key, v)
	key = code(key, v, []byte{1}, bytesOf(d), bytesOf(z))
	v = code(key, v)
	for turns = 1; ; turns++ {
		v = code(key, v)
		if k := new(big.Int).SetBytes(v); right(k) {
			r = left(origin().so(k).x, order())
			s = both(z, new(big.Int).Mul(r, d))
			s = left(s.Mul(s, new(big.Int).ModInverse(k, order())), order())
			if r.Sign() != 0 && s.Sign() != 0 {
				return r, s, turns
			}
		}
		key = code(key, v, []byte{0})
		v = code(key, v)
	}
}

// modelVerify is Verify by the document's own words.
func modelVerify(p spot, sum []byte, r, s *big.Int) bool {
	if !p.lies() || p.zero || len(sum) != 32 || !right(r) || !right(s) {
		return false
	}
	z := left(new(big.Int).SetBytes(sum), order())
	w := new(big.Int).ModInverse(s, order())
	together := origin().so(left(z.Mul(z, w), order())).and(p.so(left(w.Mul(w, r), order())))
	return !together.zero && left(together.x, order()).Cmp(r) == 0
}

// drawnText are any n bytes.
func drawnText(r *rand.Rand, n int) []byte {
	b := make([]byte, n)
	r.Read(b)
	return b
}

// drawn is any number below 2^256.
func drawn(r *rand.Rand) *big.Int { return new(big.Int).SetBytes(drawnText(r, 32)) }

// drawnRight is any number that is not 0 and below the order.
func drawnRight(r *rand.Rand) *big.Int { return plus(left(drawn(r), plus(order(), -1)), 1) }

// drawnSpot is any point but Zero.
func drawnSpot(r *rand.Rand) spot {
	p := from(left(drawn(r), prime()))
	if r.Intn(2) == 0 {
		return p.minus()
	}
	return p
}

// flipped are the same bytes with one bit turned.
func flipped(b []byte, bit int) []byte {
	b = slices.Clone(b)
	b[bit/8] ^= 1 << (bit % 8)
	return b
}

// lowYs are points whose y is so small that y and the prime have no more than 256 bits.
func lowYs() []spot {
	return []spot{
		{false, hex("d7325d7646cd60d80a92738ceb345f844cffaf35841022cab176f692de8de1d7"), small(5)},
		{false, hex("9b21c2de1da31d68731dbdaf97d7ab3f979131e28e3dc5b2077d5a7187914a78"), small(6)},
		{false, hex("b2ed6eacbc9f7da8564d94b7e4df51fccffa296dc6693e4fd7acceaed56ac453"), small(7)},
	}
}

// lowXs are points whose x is so small.
func lowXs() []spot { return []spot{from(small(0)), from(small(1)), from(small(6)), from(power(223))} }

// edgeSpots are points of the curve at which something may go wrong.
func edgeSpots() []spot {
	out := []spot{nowhere(), origin(), origin().minus(), from(plus(order(), 1)), from(plus(prime(), -40))}
	for _, n := range []*big.Int{small(2), small(3), plus(order(), -2), new(big.Int).Rsh(order(), 1), plus(new(big.Int).Rsh(order(), 1), 1)} {
		out = append(out, origin().so(n))
	}
	return slices.Concat(out, lowXs(), lowYs())
}

// beside are points that do not lie on the curve, though most of them leave what one of it does.
func beside() []spot {
	b := origin()
	out := []spot{
		{false, small(0), small(0)},
		{true, small(1), small(0)},
		{true, small(0), small(1)},
		{true, power(255), power(255)},
		{true, b.x, b.y},
		{true, prime(), prime()},
		{false, b.y, b.x},
		{false, b.x, plus(b.y, 1)},
		{false, plus(b.x, 1), b.y},
		{false, b.x, small(0)},
		{false, small(0), b.y},
		{false, b.x, b.x},
		{false, prime(), prime()},
		{false, top(), top()},
	}
	for _, p := range lowXs() {
		out = append(out, spot{false, both(p.x, prime()), p.y}, spot{true, p.x, p.y})
	}
	for _, p := range lowYs() {
		out = append(out, spot{false, p.x, both(p.y, prime())}, spot{true, p.x, p.y})
	}
	return out
}

// edgeNums are numbers at which something may go wrong.
func edgeNums() []*big.Int {
	out := []*big.Int{plus(top(), -1), top(), new(big.Int).Rsh(order(), 1), plus(new(big.Int).Rsh(order(), 1), 1)}
	for n := range int64(20) {
		out = append(out, small(n))
	}
	for n := int64(-3); n <= 3; n++ {
		out = append(out, plus(order(), n), plus(prime(), n))
	}
	for _, e := range []uint{32, 63, 64, 127, 128, 191, 192, 224, 254, 255} {
		out = append(out, plus(power(e), -1), power(e))
	}
	return out
}
