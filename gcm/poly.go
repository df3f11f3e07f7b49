package gcm

// overflow is what x^128 leaves: 1 + x + x^2 + x^7, in the first word of a poly.
const overflow = 0xe1 << 56

// poly is a block as a polynomial: the highest bit of the first word is the coefficient of 1, the lowest bit of the second one that of x^127. Two words and not 16 bytes, since a product takes 128 steps of them.
type poly struct {
	first, second uint64
}

// polyOf is a block as a polynomial.
func polyOf(b [16]byte) poly {
	var p poly
	for i := range 8 {
		p.first = p.first<<8 | uint64(b[i])
		p.second = p.second<<8 | uint64(b[i+8])
	}
	return p
}

// blockOf is a polynomial as a block.
func blockOf(p poly) [16]byte {
	var b [16]byte
	for i := range 8 {
		b[7-i] = byte(p.first >> (8 * i))
		b[15-i] = byte(p.second >> (8 * i))
	}
	return b
}

// xored is the sum of two polynomials.
func xored(a, b poly) poly {
	return poly{a.first ^ b.first, a.second ^ b.second}
}

// product goes through the coefficients of a, while b becomes b x, b x^2, and so on.
func product(a, b poly) poly {
	var sum poly
	for range 128 {
		// All ones or all noughts: a branch on each bit would be guessed wrong half of the time.
		mask := -(a.first >> 63)
		sum.first ^= b.first & mask
		sum.second ^= b.second & mask
		a = poly{a.first<<1 | a.second>>63, a.second << 1}
		b = timesX(b)
	}
	return sum
}

// timesX is the product of a polynomial and x.
func timesX(p poly) poly {
	return poly{p.first>>1 ^ p.second&1*overflow, p.second>>1 | p.first<<63}
}

// hashed is what a sum becomes by the blocks of b, the last one filled up with noughts: each is added, and the sum multiplied.
func hashed(sum, by poly, b []byte) poly {
	for from := 0; from < len(b); from += 16 {
		var block [16]byte
		copy(block[:], b[from:])
		sum = product(xored(sum, polyOf(block)), by)
	}
	return sum
}
