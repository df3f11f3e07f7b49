package suite

import (
	"drawbridge/api"
	"drawbridge/chacha"
	"drawbridge/gcm"
)

// How many records one key locks up, at most.
const (
	limitGcm    = 23726566
	limitChacha = 1 << 62
)

// locker is a suite as the face asks it.
type locker interface {
	hash() api.Hash
	keyLen() int
	limit() uint64
	seal(key []byte, nonce [12]byte, aside []byte, text []byte) ([]byte, api.Errno)
	open(key []byte, nonce [12]byte, aside []byte, sealed []byte) ([]byte, api.Errno)
}

// find is a suite, and whether there is such a one.
func find(s api.Suite) (locker, bool) {
	switch s {
	case api.SuiteAES128:
		return byGcm(api.SHA256, 16), true
	case api.SuiteAES256:
		return byGcm(api.SHA384, 32), true
	case api.SuiteChaCha:
		return byChacha(), true
	}
	return nil, false
}

// keys are what the layers below take as a key: gcm bytes of two lengths, chacha an array.
type keys interface{ []byte | [32]byte }

// lock is a suite whose layer below takes keys of the kind K.
type lock[K keys] struct {
	sums   api.Hash
	length int
	most   uint64
	keyOf  func(b []byte) K // of bytes that have the length
	sealed func(key K, nonce [12]byte, aside []byte, text []byte) ([]byte, api.Errno)
	opened func(key K, nonce [12]byte, aside []byte, sealed []byte) ([]byte, api.Errno)
}

func (l lock[K]) hash() api.Hash { return l.sums }

func (l lock[K]) keyLen() int { return l.length }

func (l lock[K]) limit() uint64 { return l.most }

func (l lock[K]) seal(key []byte, nonce [12]byte, aside []byte, text []byte) ([]byte, api.Errno) {
	if len(key) != l.length {
		return nil, api.ErrSuiteKey
	}
	return l.sealed(l.keyOf(key), nonce, aside, text)
}

// open tells each refusal by this layer's own error, whichever layer refused.
func (l lock[K]) open(key []byte, nonce [12]byte, aside []byte, sealed []byte) ([]byte, api.Errno) {
	if len(key) != l.length {
		return nil, api.ErrSuiteKey
	}
	text, e := l.opened(l.keyOf(key), nonce, aside, sealed)
	if e != api.OK {
		return nil, api.ErrSuiteOpen
	}
	return text, api.OK
}

// byGcm is a suite that locks by gcm, which takes the bytes of a key as they are.
func byGcm(sums api.Hash, length int) lock[[]byte] {
	same := func(b []byte) []byte { return b }
	return lock[[]byte]{
		sums:   sums,
		length: length,
		most:   limitGcm,
		keyOf:  same,
		sealed: gcm.Seal,
		opened: gcm.Open,
	}
}

// byChacha is the suite that locks by chacha.
func byChacha() lock[[32]byte] {
	return lock[[32]byte]{
		sums:   api.SHA256,
		length: 32,
		most:   limitChacha,
		keyOf:  arrayOf,
		sealed: chachaSeal,
		opened: chacha.Open,
	}
}

// arrayOf is the array of 32 bytes.
func arrayOf(b []byte) [32]byte {
	var key [32]byte
	copy(key[:], b)
	return key
}

// chachaSeal is chacha's Seal, with the error that a lock may tell and chacha never does.
func chachaSeal(key [32]byte, nonce [12]byte, aside []byte, text []byte) ([]byte, api.Errno) {
	return chacha.Seal(key, nonce, aside, text), api.OK
}
