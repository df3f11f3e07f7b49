package field

import (
	"math/bits"

	"drawbridge/api"
)

// modulus is what a parameter of the generic type tells: M, whose highest digit is not 0, and 2^512 / M, rounded down, its lowest digit first.
type modulus interface {
	modulus() api.Num
	ratio() [5]uint64
}

// orderP256 tells the order of P-256.
type orderP256 struct{}

func (orderP256) modulus() api.Num {
	return api.Num{0xf3b9cac2fc632551, 0xbce6faada7179e84, 0xffffffffffffffff, 0xffffffff00000000}
}

func (orderP256) ratio() [5]uint64 {
	return [5]uint64{0x012ffd85eedf9bfe, 0x43190552df1a6c21, 0xfffffffeffffffff, 0x00000000ffffffff, 1}
}

// order25519 tells the order of Ed25519.
type order25519 struct{}

func (order25519) modulus() api.Num {
	return api.Num{0x5812631a5cf5d3ed, 0x14def9dea2f79cd6, 0, 0x1000000000000000}
}

func (order25519) ratio() [5]uint64 {
	return [5]uint64{0xed9ce5a30a2c131b, 0x2106215d086329a7, 0xffffffffffffffeb, 0xffffffffffffffff, 0x0f}
}

// order reckons modulo the order that its parameter tells. An order has no form that makes a rest easy: it is made by Barrett's way.
type order[M modulus] struct{}

// reduce is what x leaves. The quotient is at most 2 too small, so that M is taken away at most twice more.
func (o order[M]) reduce(x wide) api.Num {
	var m M
	left, over := o.without(x, o.quotient(x))
	for over != 0 || !below(left, m.modulus()) {
		var under uint64
		left, under = minus(left, m.modulus())
		over -= under
	}
	return left
}

// quotient is x / M, or at most 2 less: the five high digits of x times the ratio, the five low digits of that left out.
func (order[M]) quotient(x wide) [5]uint64 {
	var m M
	r := m.ratio()
	var all [10]uint64
	for i := range 5 {
		var over uint64
		for j := range 5 {
			all[i+j], over = step(x[3+i], r[j], all[i+j], over)
		}
		all[i+5] = over
	}
	var q [5]uint64
	copy(q[:], all[5:])
	return q
}

// without is x less q times M. As it is less than 3 M, five digits tell it: a number, and what is over.
func (order[M]) without(x wide, q [5]uint64) (api.Num, uint64) {
	var m M
	n := m.modulus()
	var all [9]uint64
	for i := range 5 {
		var over uint64
		for j := range 4 {
			all[i+j], over = step(q[i], n[j], all[i+j], over)
		}
		all[i+4] = over
	}
	var left api.Num
	var under uint64
	for i := range 4 {
		left[i], under = bits.Sub64(x[i], all[i], under)
	}
	return left, x[4] - all[4] - under
}
