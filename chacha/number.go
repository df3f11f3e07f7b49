package chacha

// digitBits is how many bits a digit has: five digits have 130, so that what goes beyond the highest one comes back, five times, at the lowest.
const digitBits = 26

// number is one modulo 2^130 - 5, its digits the lowest first. They may be a little greater than their bits allow: below 2^28 all sums of products have room in 64 bits.
type number [5]uint64

// firstHalf is r: the first half of the key, of which some bits are left out.
func firstHalf(key [32]byte) number {
	var b [pieceSize + 1]byte
	copy(b[:pieceSize], key[:])
	for i := 3; i < pieceSize; i += 4 {
		b[i] &= 0x0f
	}
	for i := 4; i < pieceSize; i += 4 {
		b[i] &= 0xfc
	}
	return numberOf(b)
}

// marked is a piece and a byte 1 behind it, by which pieces with noughts at their end are unlike.
func marked(piece []byte) [pieceSize + 1]byte {
	var b [pieceSize + 1]byte
	copy(b[:], piece)
	b[len(piece)] = 1
	return b
}

// numberOf is the number of bytes, the lowest first. Where a byte goes beyond its digit, the rest of it is carried on.
func numberOf(b [pieceSize + 1]byte) number {
	var n number
	for i, v := range b {
		n[8*i/digitBits] += uint64(v) << (8 * i % digitBits)
	}
	return reduced(n)
}

// added is a sum; its digits are not carried yet.
func added(a, b number) number {
	for i := range a {
		a[i] += b[i]
	}
	return a
}

// product is that of two numbers. It is reduced twice: the first time may leave a great lowest digit, the second one at most 5 too much.
func product(a, b number) number {
	var sum number
	for i := range a {
		for j := range b {
			part := a[i] * b[j]
			if i+j >= len(sum) {
				part *= 5
			}
			sum[(i+j)%len(sum)] += part
		}
	}
	return reduced(reduced(sum))
}

// carried is a number with what is too much for a digit brought to the next, and what goes beyond the highest.
func carried(n number) (number, uint64) {
	var over uint64
	for i := range n {
		n[i] += over
		over = n[i] >> digitBits
		n[i] &= 1<<digitBits - 1
	}
	return n, over
}

// reduced is the same number modulo 2^130 - 5, with what goes beyond the highest digit brought back: 2^130 leaves 5.
func reduced(n number) number {
	n, over := carried(n)
	n[0] += 5 * over
	return n
}

// least is the same number, below 2^130 - 5: it is not yet so, if 5 more go beyond the highest digit. Once is enough, since a product is below 2^130 + 5.
func least(n number) number {
	more, over := carried(added(n, number{5}))
	if over != 0 {
		return more
	}
	return n
}

// secondHalf is s: the second half of the key.
func secondHalf(key [32]byte) number {
	var b [pieceSize + 1]byte
	copy(b[:pieceSize], key[pieceSize:])
	return numberOf(b)
}

// bytesOf is a number modulo 2^128 as bytes, the lowest first. Some of them have bits of two digits.
func bytesOf(n number) [tagSize]byte {
	n, _ = carried(n)
	var out [tagSize]byte
	for i := range out {
		at := 8 * i
		out[i] = byte(n[at/digitBits] >> (at % digitBits))
		if at%digitBits > digitBits-8 {
			out[i] |= byte(n[at/digitBits+1] << (digitBits - at%digitBits))
		}
	}
	return out
}
