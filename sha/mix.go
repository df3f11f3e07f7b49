package sha

import "drawbridge/api"

// word is what is reckoned with: of 32 bits or of 64, and what goes beyond it is lost.
type word interface{ uint32 | uint64 }

// kind is by how many bits the words of one length are turned and shifted, and how often.
type kind struct {
	bits   int
	rounds int
	s0, s1 amounts // the third one shifts
	t0, t1 amounts // S0 and S1 of the document
}

// amounts are numbers of bits.
type amounts struct{ first, second, third int }

// shortWords is how words of 32 bits are mixed.
func shortWords() kind {
	return kind{32, 64, amounts{7, 18, 3}, amounts{17, 19, 10}, amounts{2, 13, 22}, amounts{6, 11, 25}}
}

// longWords is how words of 64 bits are mixed.
func longWords() kind {
	return kind{64, 80, amounts{1, 8, 7}, amounts{19, 61, 6}, amounts{28, 34, 39}, amounts{14, 18, 41}}
}

// mixInto mixes a block into the state.
func mixInto(h api.Hash, state *[8]uint64, block []byte) {
	if h == api.SHA256 {
		mix[uint32](shortWords(), state, block)
		return
	}
	mix[uint64](longWords(), state, block)
}

// mix mixes a block into the state, which holds short words in long ones.
func mix[W word](k kind, state *[8]uint64, block []byte) {
	w := spread[W](k, block)
	var s [8]W
	for i, v := range state {
		s[i] = W(v)
	}
	a, b, c, d, e, f, g, h := s[0], s[1], s[2], s[3], s[4], s[5], s[6], s[7]
	for t := range k.rounds {
		number := W(numbers[t] >> (64 - k.bits))
		x := h + turnThrice(e, k.t1, k.bits) + (e&f ^ ^e&g) + number + w[t]
		y := turnThrice(a, k.t0, k.bits) + (a&b ^ a&c ^ b&c)
		h, g, f, e, d, c, b, a = g, f, e, d+x, c, b, a, x+y
	}
	for i, v := range [8]W{a, b, c, d, e, f, g, h} {
		state[i] = uint64(s[i] + v)
	}
}

// spread is a word for each round: the block's own, and then each made of four ahead of it.
func spread[W word](k kind, block []byte) [80]W {
	var w [80]W
	size := k.bits / 8
	for t := range 16 {
		for _, b := range block[t*size : t*size+size] {
			w[t] = w[t]<<8 | W(b)
		}
	}
	for t := 16; t < k.rounds; t++ {
		w[t] = turnTwice(w[t-2], k.s1, k.bits) + w[t-7] + turnTwice(w[t-15], k.s0, k.bits) + w[t-16]
	}
	return w
}

// turn is x turned right; by is above nought and below bits. The masks tell the compiler that no shift goes beyond a word.
func turn[W word](x W, by int, bits int) W {
	return x>>(by&63) | x<<((bits-by)&63)
}

// turnTwice is what s0 and s1 make of x.
func turnTwice[W word](x W, by amounts, bits int) W {
	return turn(x, by.first, bits) ^ turn(x, by.second, bits) ^ x>>(by.third&63)
}

// turnThrice is what S0 and S1 make of x.
func turnThrice[W word](x W, by amounts, bits int) W {
	return turn(x, by.first, bits) ^ turn(x, by.second, bits) ^ turn(x, by.third, bits)
}

// sumOf is the state as bytes, as many as a sum has.
func sumOf(h api.Hash, state [8]uint64) []byte {
	size := Block(h) / 16
	sum := make([]byte, Size(h))
	for i := range sum {
		sum[i] = byte(state[i/size] >> (8 * (size - 1 - i%size)))
	}
	return sum
}
