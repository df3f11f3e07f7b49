package der

import (
	"math/bits"
	"strconv"
	"strings"

	"drawbridge/api"
)

// maxNumbers is how many numbers an OID's body has, at most; the first one tells two.
const maxNumbers = 16

// OID reads a name that is made of numbers.
func OID(b []byte) (string, api.Errno) {
	numbers, are := sevens(b)
	if !are {
		return "", api.ErrDerValue
	}
	top := min(numbers[0]/40, 2)
	text := strconv.FormatUint(top, 10) + "." + strconv.FormatUint(numbers[0]-40*top, 10)
	for _, n := range numbers[1:] {
		text += "." + strconv.FormatUint(n, 10)
	}
	return text, api.OK
}

// sevens are the numbers of which bytes tell seven bits each, if there are no bytes but theirs.
func sevens(b []byte) (numbers []uint64, are bool) {
	n, within := uint64(0), false
	for _, c := range b {
		if !within && c == 0x80 || len(numbers) == maxNumbers {
			return nil, false
		}
		n = n<<7 | uint64(c&0x7f)
		if n >= 1<<32 {
			return nil, false
		}
		within = c >= 0x80
		if !within {
			numbers = append(numbers, n)
			n = 0
		}
	}
	return numbers, len(numbers) > 0 && !within
}

// oidBody is the body of numbers with points between; nothing, if they are no numbers, or fewer than two.
// Whether they are an OID's, each told in the right way, is not asked here.
func oidBody(s string) []byte {
	// Of what has more points than an OID may have, the last part still has some: it is no number.
	parts := strings.SplitN(s, ".", maxNumbers+1)
	var numbers []uint64
	for _, part := range parts {
		n, err := strconv.ParseUint(part, 10, 32)
		if err != nil {
			return nil
		}
		numbers = append(numbers, n)
	}
	if len(numbers) < 2 {
		return nil
	}
	body := appendSevens(nil, 40*numbers[0]+numbers[1])
	for _, n := range numbers[2:] {
		body = appendSevens(body, n)
	}
	return body
}

// appendSevens writes a number, seven bits a byte, behind others.
func appendSevens(b []byte, n uint64) []byte {
	for more := (bits.Len64(n) - 1) / 7; more > 0; more-- {
		b = append(b, 0x80|byte(n>>(7*more)))
	}
	return append(b, byte(n)&0x7f)
}
