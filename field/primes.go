package field

import "drawbridge/api"

// prime25519 is 2^255 - 19.
func prime25519() api.Num {
	return api.Num{0xffffffffffffffed, 0xffffffffffffffff, 0xffffffffffffffff, 0x7fffffffffffffff}
}

// reduce25519 is what x leaves. 2^256 leaves 38, so the high digits come down 38 times; what goes beyond the digits then is at most 38, and then at most 1.
func reduce25519(x wide) api.Num {
	low, high := x.halves()
	low, over := addTimes38(low, high)
	for over != 0 {
		low, over = addTimes38(low, api.Num{over})
	}
	for !below(low, prime25519()) {
		low, _ = minus(low, prime25519())
	}
	return low
}

// addTimes38 is a and 38 times b, and what goes beyond the digits.
func addTimes38(a api.Num, b api.Num) (api.Num, uint64) {
	var over uint64
	for i := range 4 {
		a[i], over = step(b[i], 38, a[i], over)
	}
	return a, over
}

// maybeRoot25519 is a root of a, if there is one. With p for the prime, a to the power of (p + 3) / 8 is a number whose square is a or -a; in the other case it lacks the root of -1.
func maybeRoot25519(a api.Num) api.Num {
	e := api.Num{0xfffffffffffffffe, 0xffffffffffffffff, 0xffffffffffffffff, 0x0fffffffffffffff}
	rootOfMinusOne := api.Num{0xc4ee1b274a0ea0b0, 0x2f431806ad2fe478, 0x2b4d00993dfbd7a7, 0x2b8324804fc1df0b}
	root := Exp(api.F25519, a, e)
	if Mul(api.F25519, root, root) == rest(api.F25519, a) {
		return root
	}
	return Mul(api.F25519, root, rootOfMinusOne)
}

// primeP256 is 2^256 - 2^224 + 2^192 + 2^96 - 1.
func primeP256() api.Num {
	return api.Num{0xffffffffffffffff, 0x00000000ffffffff, 0, 0xffffffff00000001}
}

// columns is a number by columns of 32 bits, the lowest first; a column may owe, or hold more than its bits, until they are settled.
type columns [16]int64

// reduceP256 is what x leaves: its eight high columns come down, and then what settling brings above the eighth, which is little at first, then at most 1 or -1, then nothing.
func reduceP256(x wide) api.Num {
	var c columns
	for i := range 16 {
		c[i] = int64(x[i/2] >> (i % 2 * 32) & 0xffffffff)
	}
	for i := range 8 {
		c.fold(15 - i)
	}
	c.settle()
	for c[8] != 0 {
		c.fold(8)
		c.settle()
	}
	low := c.low()
	if !below(low, primeP256()) {
		low, _ = minus(low, primeP256())
	}
	return low
}

// fold brings a high column down: 2^256 leaves 2^224 - 2^192 - 2^96 + 1.
func (c *columns) fold(i int) {
	v := c[i]
	c[i] = 0
	c[i-1] += v
	c[i-2] -= v
	c[i-5] -= v
	c[i-8] += v
}

// settle leaves to each of the eight low columns its 32 bits, and hands the rest on.
func (c *columns) settle() {
	for i := range 8 {
		c[i+1] += c[i] >> 32
		c[i] &= 0xffffffff
	}
}

// low are the eight low columns as digits.
func (c *columns) low() api.Num {
	var a api.Num
	for i := range 8 {
		a[i/2] |= uint64(c[i]) << (i % 2 * 32)
	}
	return a
}

// maybeRootP256 is a root of a, if there is one: with p for the prime, a to the power of (p + 1) / 4.
func maybeRootP256(a api.Num) api.Num {
	e := api.Num{0, 0x0000000040000000, 0x4000000000000000, 0x3fffffffc0000000}
	return Exp(api.FP256, a, e)
}
