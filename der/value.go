package der

import (
	"bytes"
	"math/bits"

	"drawbridge/api"
)

// maxNum is how many bytes a number's body has, at most: 32, and a nought ahead of them.
const maxNum = 33

// Num, Small, Bool and Bits read values, as OID and Time do.
func Num(b []byte) ([]byte, api.Errno) {
	if len(b) == 0 || len(b) > maxNum || b[0] >= 0x80 {
		return nil, api.ErrDerValue
	}
	if len(b) == 1 || b[0] != 0 {
		return bytes.Clone(b), api.OK
	}
	// A nought ahead stands only where the number would be below 0 without it.
	if b[1] < 0x80 {
		return nil, api.ErrDerValue
	}
	return bytes.Clone(b[1:]), api.OK
}

func Small(b []byte) (int, api.Errno) {
	digits, e := Num(b)
	n := uint64(0)
	for _, c := range digits {
		n = n<<8 | uint64(c)
		if n >= 1<<31 {
			return 0, api.ErrDerValue
		}
	}
	return int(n), e
}

func Bool(b []byte) (bool, api.Errno) {
	if len(b) != 1 || b[0] != 0 && b[0] != 255 {
		return false, api.ErrDerValue
	}
	return b[0] == 255, api.OK
}

func Bits(b []byte) ([]byte, int, api.Errno) {
	if len(b) == 0 || b[0] > 7 {
		return nil, 0, api.ErrDerValue
	}
	unused, all := int(b[0]), b[1:]
	if unused != 0 && !endsIn(unused, all) {
		return nil, 0, api.ErrDerValue
	}
	return bytes.Clone(all), unused, api.OK
}

// endsIn: do bytes end in so many bits that are 0?
func endsIn(zeros int, b []byte) bool {
	return len(b) > 0 && bits.TrailingZeros8(b[len(b)-1]) >= zeros
}
