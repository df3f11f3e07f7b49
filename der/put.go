package der

import (
	"bytes"

	"drawbridge/api"
)

// The tags of the values that are written.
const (
	tagNum       = 0x02
	tagOID       = 0x06
	tagShortTime = 0x17
	tagLongTime  = 0x18
)

// How a length begins: below inOneByte it is that byte.
const (
	inOneByte = 0x80
	inOneMore = 0x81
	inTwoMore = 0x82
)

// maxBody is how many bytes a body has, at most.
const maxBody = 65535

// Put writes an item.
func Put(tag byte, parts ...[]byte) []byte {
	n, fits := total(parts)
	if !isTag(tag) || !fits {
		return nil
	}
	head := lengthBytes(n)
	b := make([]byte, 0, 1+len(head)+n)
	b = append(b, tag)
	b = append(b, head...)
	for _, part := range parts {
		b = append(b, part...)
	}
	return b
}

// total is how many bytes parts have, if an item has room for them.
func total(parts [][]byte) (n int, fits bool) {
	for _, part := range parts {
		if len(part) > maxBody-n {
			return 0, false
		}
		n += len(part)
	}
	return n, true
}

// lengthBytes is the one way to write a length.
func lengthBytes(n int) []byte {
	switch {
	case n < inOneByte:
		return []byte{byte(n)}
	case n < 256:
		return []byte{inOneMore, byte(n)}
	}
	return []byte{inTwoMore, byte(n >> 8), byte(n)}
}

// PutNum, PutOID and PutTime write values, as items.
func PutNum(b []byte) []byte {
	body := bytes.TrimLeft(b, "\x00")
	// A first bit that is set would say that the number is below 0.
	if len(body) == 0 || body[0] >= 0x80 {
		body = append([]byte{0}, body...)
	}
	if _, e := Num(body); e != api.OK {
		return nil
	}
	return Put(tagNum, body)
}

func PutOID(s string) []byte {
	body := oidBody(s)
	// Texts that tell an OID otherwise, or none, are not told back.
	if told, e := OID(body); e != api.OK || told != s {
		return nil
	}
	return Put(tagOID, body)
}

func PutTime(t int64) []byte {
	if t < firstTime || t > lastTime {
		return nil
	}
	m := momentAt(t)
	text := m.text()
	if isShortYear(m.year) {
		return Put(tagShortTime, text[2:])
	}
	return Put(tagLongTime, text)
}
