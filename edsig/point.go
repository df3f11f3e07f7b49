package edsig

import (
	"drawbridge/api"
	"drawbridge/field"
)

// windows is how many digits of four bits a number has: a point's multiples are made digit by digit.
const windows = 64

// point is a point whose x and y are not divided yet: they are x over z and y over z, so that no sum needs an inverse. Its t over z is the product of both, which each sum asks for. No z is 0.
type point struct{ x, y, z, t api.Num }

// at is the point of an x and a y.
func at(x api.Num, y api.Num) point { return point{x: x, y: y, z: api.Num{1}, t: mul(x, y)} }

// neutral is the point that changes nothing.
func neutral() point { return at(api.Num{}, api.Num{1}) }

// base is the point with y = 4 / 5 whose x is even.
func base() point {
	x := api.Num{0xc9562d608f25d51a, 0x692cc7609525a7b2, 0xc0a4e231fdd6dc5c, 0x216936d3cd6e53fe}
	y := api.Num{0x6666666666666658, 0x6666666666666666, 0x6666666666666666, 0x6666666666666666}
	return at(x, y)
}

// curveNumber is d, -121665 / 121666.
func curveNumber() api.Num {
	return api.Num{0x75eb4dca135978a3, 0x00700a4d4141d8ab, 0x8cc740797779e898, 0x52036cee2b6ffe73}
}

// plus is two points together, any two, the same one twice too: as d is no square, what is divided by is never 0.
func (p point) plus(q point) point {
	less := mul(sub(p.y, p.x), sub(q.y, q.x))
	more := mul(add(p.y, p.x), add(q.y, q.x))
	over := mul(p.z, q.z)
	over = add(over, over)
	cross := mul(curveNumber(), mul(p.t, q.t))
	cross = add(cross, cross)
	// Each of these is twice what the document's formula has: it cancels out.
	xTop, xBottom := sub(more, less), add(over, cross)
	yTop, yBottom := add(more, less), sub(over, cross)
	return point{x: mul(xTop, yBottom), y: mul(yTop, xBottom), z: mul(xBottom, yBottom), t: mul(xTop, yTop)}
}

// multiples are a point's first sixteen, from none of it on.
func (p point) multiples() [16]point {
	all := [16]point{neutral()}
	for i := range 15 {
		all[i+1] = all[i].plus(p)
	}
	return all
}

// times is a point n times, the highest digit of n first.
func (p point) times(n api.Num) point {
	all := p.multiples()
	sum := neutral()
	for i := range windows {
		for range 4 {
			sum = sum.plus(sum)
		}
		sum = sum.plus(all[digit(n, windows-1-i)])
	}
	return sum
}

// digit is a digit of four bits, the lowest being 0.
func digit(n api.Num, i int) uint64 { return n[i/16] >> (i % 16 * 4) & 15 }

// same: are two points the same? Their quotients are held against each other crosswise, so that nothing is divided.
func (p point) same(q point) bool {
	return mul(p.x, q.z) == mul(q.x, p.z) && mul(p.y, q.z) == mul(q.y, p.z)
}

// bytes are a point's: its y, and whether its x is odd.
func (p point) bytes() [32]byte {
	inverse := field.Inv(api.F25519, p.z)
	x, y := mul(p.x, inverse), mul(p.y, inverse)
	b := field.ToLE(y)
	if odd(x) {
		b[31] |= 0x80
	}
	return b
}

// decode is the point that bytes tell, if they tell one. Each point is told by one text of bytes alone.
func decode(b [32]byte) (point, bool) {
	wantOdd := b[31]&0x80 != 0
	b[31] &^= 0x80
	y := field.FromLE(b)
	if !field.Right(api.F25519, y) {
		return point{}, false
	}
	x, is := evenX(y)
	if !is || wantOdd && x == (api.Num{}) {
		return point{}, false
	}
	if wantOdd {
		x = field.Neg(api.F25519, x)
	}
	return at(x, y), true
}

// evenX is the even x of a point with that y, if there is one: x^2 (1 + d y^2) = y^2 - 1, in which 1 + d y^2 is never 0.
func evenX(y api.Num) (api.Num, bool) {
	one := api.Num{1}
	square := mul(y, y)
	top, bottom := sub(square, one), add(one, mul(curveNumber(), square))
	return field.Root(api.F25519, mul(top, field.Inv(api.F25519, bottom)))
}

// odd: is a number odd?
func odd(a api.Num) bool { return a[0]&1 == 1 }

func add(a api.Num, b api.Num) api.Num { return field.Add(api.F25519, a, b) }

func sub(a api.Num, b api.Num) api.Num { return field.Sub(api.F25519, a, b) }

func mul(a api.Num, b api.Num) api.Num { return field.Mul(api.F25519, a, b) }
