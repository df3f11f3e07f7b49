package xdh

import (
	"drawbridge/api"
	"drawbridge/field"
)

// rungs is how many bits of a multiplier the ladder goes by: the one above them is always 0.
const rungs = 255

// curveNumber is (486662 - 2) / 4, of the curve y^2 = x^3 + 486662 x^2 + x.
const curveNumber = 121665

// quotient is a point's x that is not divided yet, so that no step of the ladder needs an inverse. The point that has no x is over nought.
type quotient struct{ top, bottom api.Num }

// value is what a quotient comes to: 0 over nought, since the inverse of 0 is 0.
func (q quotient) value() api.Num { return mul(q.top, field.Inv(api.F25519, q.bottom)) }

// climb is the point of that x, n times. Of the two that go up, the higher one is always once more than the lower one, as step needs it.
func climb(n api.Num, x api.Num) quotient {
	low := quotient{top: api.Num{1}}
	high := quotient{top: x, bottom: api.Num{1}}
	for i := range rungs {
		if bit(n, rungs-1-i) {
			high, low = step(x, high, low)
		} else {
			low, high = step(x, low, high)
		}
	}
	return low
}

// step is one point twice, and its sum with the other. Their difference is known by its x alone, and no y is asked for.
func step(x api.Num, one quotient, other quotient) (twice quotient, both quotient) {
	sum, diff := add(one.top, one.bottom), sub(one.top, one.bottom)
	p, q := square(sum), square(diff)
	e := sub(p, q)
	v := mul(sub(other.top, other.bottom), sum)
	w := mul(add(other.top, other.bottom), diff)
	twice = quotient{top: mul(p, q), bottom: mul(e, add(p, mul(api.Num{curveNumber}, e)))}
	both = quotient{top: square(add(v, w)), bottom: mul(x, square(sub(v, w)))}
	return twice, both
}

// bit: is that bit 1?
func bit(n api.Num, i int) bool { return n[i/64]>>(i%64)&1 == 1 }

func add(a api.Num, b api.Num) api.Num { return field.Add(api.F25519, a, b) }

func sub(a api.Num, b api.Num) api.Num { return field.Sub(api.F25519, a, b) }

func mul(a api.Num, b api.Num) api.Num { return field.Mul(api.F25519, a, b) }

func square(a api.Num) api.Num { return mul(a, a) }
