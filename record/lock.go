package record

import (
	"bytes"
	"math"

	"drawbridge/api"
	"drawbridge/suite"
)

// Of what a record consists, and how much of it there is at most.
const (
	headLen   = 5
	tagLen    = 16
	maxPad    = 255
	maxLocked = api.MaxPlain + 256
	room      = headLen + maxLocked
)

// headOf is the head of a record that has so many bytes behind it.
func headOf(t api.Content, n int) []byte {
	return []byte{byte(t), 3, 3, byte(n >> 8), byte(n)}
}

// lock is a key, and the number of the next record by it.
type lock struct {
	suite  api.Suite
	key    []byte
	iv     [12]byte
	number uint64
}

// newLock is one by which there was no record yet.
func newLock(s api.Suite, key []byte, iv [12]byte) (lock, api.Errno) {
	if !suite.Known(s) || len(key) != suite.KeyLen(s) {
		return lock{}, api.ErrRecordKey
	}
	return lock{suite: s, key: bytes.Clone(key), iv: iv}, api.OK
}

// has: is there a key?
func (l *lock) has() bool { return l.key != nil }

// seal locks a text up, by the next number.
func (l *lock) seal(head []byte, text []byte) []byte {
	// The suite and the key's length were asked by newLock, and Seal refuses nothing else.
	b, _ := suite.Seal(l.suite, l.key, suite.Nonce(l.iv, l.number), head, text)
	l.next()
	return b
}

// open is the text that was locked up by the next number, which stays the next one where it is refused.
func (l *lock) open(head []byte, locked []byte) ([]byte, api.Errno) {
	text, e := suite.Open(l.suite, l.key, suite.Nonce(l.iv, l.number), head, locked)
	if e == api.OK {
		l.next()
	}
	return text, e
}

// next counts a record. The number must not begin again, which would bring old nonces back.
func (l *lock) next() {
	if l.number < math.MaxUint64 {
		l.number++
	}
}
