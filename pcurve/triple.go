package pcurve

import (
	"drawbridge/api"
	"drawbridge/field"
)

// triple is a point whose X and Y are not divided yet: they are x over z and y over z, so that no sum needs an inverse. Zero is the one whose z is 0; its y is not.
type triple struct{ x, y, z api.Num }

// of is a point of the curve by three numbers.
func of(p api.Point) triple {
	if p == zero() {
		return triple{y: api.Num{1}}
	}
	return triple{x: p.X, y: p.Y, z: api.Num{1}}
}

// point is what three numbers tell.
func (p triple) point() api.Point {
	if p.z == (api.Num{}) {
		return zero()
	}
	inverse := field.Inv(api.FP256, p.z)
	return api.Point{X: mul(p.x, inverse), Y: mul(p.y, inverse)}
}

// curveNumber is b.
func curveNumber() api.Num {
	return api.Num{0x3bce3c3e27d2604b, 0x651d06b0cc53b0f6, 0xb3ebbd55769886bc, 0x5ac635d8aa3a93e7}
}

// squareAt is what the Y of a point with that X has as its square.
func squareAt(x api.Num) api.Num {
	cube := mul(x, mul(x, x))
	return add(sub(cube, thrice(x)), curveNumber())
}

// plus is two points together by one formula (Renes, Costello and Batina's), for any two, the same one twice and Zero too: the order of the curve is odd, so no point has Y = 0, and then never all three numbers come out as 0.
func (p triple) plus(q triple) triple {
	xx, yy, zz := mul(p.x, q.x), mul(p.y, q.y), mul(p.z, q.z)
	xy := add(mul(p.x, q.y), mul(p.y, q.x))
	yz := add(mul(p.y, q.z), mul(p.z, q.y))
	xz := add(mul(p.x, q.z), mul(p.z, q.x))
	u := thrice(sub(xz, mul(curveNumber(), zz)))
	v := thrice(sub(mul(curveNumber(), xz), add(xx, thrice(zz))))
	w := thrice(sub(xx, zz))
	less, more := sub(yy, u), add(yy, u)
	return triple{
		x: sub(mul(xy, more), mul(yz, v)),
		y: add(mul(less, more), mul(v, w)),
		z: add(mul(yz, less), mul(xy, w)),
	}
}

// times is a point k times.
func (p triple) times(k api.Num) triple { return timesBoth(k, p, api.Num{}, p) }

// timesBoth is p, j times, and q, k times, together: the highest bits of j and k come first, and both share each doubling.
func timesBoth(j api.Num, p triple, k api.Num, q triple) triple {
	sum := of(zero())
	for i := range 256 {
		sum = sum.plus(sum)
		if bit(j, 255-i) {
			sum = sum.plus(p)
		}
		if bit(k, 255-i) {
			sum = sum.plus(q)
		}
	}
	return sum
}

// bit: is that bit 1?
func bit(k api.Num, i int) bool { return k[i/64]>>(i%64)&1 == 1 }

func thrice(a api.Num) api.Num { return add(a, add(a, a)) }

func add(a api.Num, b api.Num) api.Num { return field.Add(api.FP256, a, b) }

func sub(a api.Num, b api.Num) api.Num { return field.Sub(api.FP256, a, b) }

func mul(a api.Num, b api.Num) api.Num { return field.Mul(api.FP256, a, b) }
