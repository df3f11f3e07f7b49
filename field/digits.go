package field

import (
	"math/bits"

	"drawbridge/api"
)

// wide is a number of eight digits, the lowest first: a product has no more.
type wide [8]uint64

// join puts four digits above four others.
func join(low api.Num, high api.Num) wide {
	var x wide
	copy(x[:4], low[:])
	copy(x[4:], high[:])
	return x
}

// halves are the four low digits, and the four high ones.
func (x wide) halves() (low api.Num, high api.Num) {
	copy(low[:], x[:4])
	copy(high[:], x[4:])
	return low, high
}

// below: is a less than b? Mostly the highest digits tell it.
func below(a api.Num, b api.Num) bool {
	for i := range 4 {
		if x, y := a[3-i], b[3-i]; x != y {
			return x < y
		}
	}
	return false
}

// plus is a sum, and the 1 that goes beyond its digits.
func plus(a api.Num, b api.Num) (api.Num, uint64) {
	var over uint64
	for i := range 4 {
		a[i], over = bits.Add64(a[i], b[i], over)
	}
	return a, over
}

// minus is a difference, and the 1 that it lacks.
func minus(a api.Num, b api.Num) (api.Num, uint64) {
	var under uint64
	for i := range 4 {
		a[i], under = bits.Sub64(a[i], b[i], under)
	}
	return a, under
}

// step is x times y, and c and d beside it: two digits hold it, even if all are the greatest.
func step(x uint64, y uint64, c uint64, d uint64) (low uint64, high uint64) {
	high, low = bits.Mul64(x, y)
	low, over := bits.Add64(low, c, 0)
	high += over
	low, over = bits.Add64(low, d, 0)
	return low, high + over
}

// product is all of a times b.
func product(a api.Num, b api.Num) wide {
	var x wide
	for i := range 4 {
		var over uint64
		for j := range 4 {
			x[i+j], over = step(a[i], b[j], x[i+j], over)
		}
		x[i+4] = over
	}
	return x
}

// length is how many bits a number has, from its highest that is 1 on.
func length(a api.Num) int {
	n := 0
	for i := range 4 {
		if a[i] != 0 {
			n = 64*i + bits.Len64(a[i])
		}
	}
	return n
}

// bit: is that bit 1?
func bit(a api.Num, i int) bool { return a[i/64]>>(i%64)&1 == 1 }
