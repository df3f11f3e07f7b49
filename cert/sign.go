package cert

import (
	"drawbridge/api"
	"drawbridge/der"
	"drawbridge/edsig"
	"drawbridge/pcurve"
	"drawbridge/sha"
)

// How many bytes a key and a signature of KeyEd have.
const (
	edKeyLen = 32
	edSigLen = 64
)

// numLen is how many bytes a number below 2^256 has, at most.
const numLen = 32

func publicEd(seed [32]byte) []byte {
	key := edsig.Public(seed)
	return key[:]
}

func publicP256(d api.Num) ([]byte, api.Errno) {
	// With Zero no secret is shared, but what is wrong with the number is told ahead of that.
	if _, e := pcurve.Shared(d, api.Point{Zero: true}); e == api.ErrCurveNum {
		return nil, api.ErrArg
	}
	return pcurve.Encode(pcurve.Mult(d, pcurve.Base())), api.OK
}

func signEd(seed [32]byte, text []byte) []byte {
	sig := edsig.Sign(seed, text)
	return sig[:]
}

func signP256(d api.Num, text []byte) ([]byte, api.Errno) {
	r, s, e := pcurve.Sign(d, sha.Of(api.SHA256, text))
	if e != api.OK {
		return nil, api.ErrArg
	}
	return der.Put(tagList, der.PutNum(digits(r)), der.PutNum(digits(s))), api.OK
}

func verifyEd(key []byte, text []byte, sig []byte) bool {
	if len(key) != edKeyLen || len(sig) != edSigLen {
		return false
	}
	var public [edKeyLen]byte
	var halves [edSigLen]byte
	copy(public[:], key)
	copy(halves[:], sig)
	return edsig.Verify(public, text, halves)
}

func verifyP256(key []byte, text []byte, sig []byte) bool {
	p, e := pcurve.Decode(key)
	if e != api.OK {
		return false
	}
	pair := badForm.these(badForm.only(sig, tagList), tagNum, tagNum)
	r, s := half(pair[0].Body), half(pair[1].Body)
	return pcurve.Verify(p, sha.Of(api.SHA256, text), r, s)
}

// half is a number of a signature.
func half(b []byte) api.Num {
	n := badForm.num(b)
	badForm.unless(len(n) <= numLen)
	return number(n)
}

// number is what bytes say, the highest first: 32 of them at most.
func number(b []byte) api.Num {
	var n api.Num
	for i := range b {
		n[i/8] |= uint64(b[len(b)-1-i]) << (i % 8 * 8)
	}
	return n
}

// digits are a number's 32 bytes, the highest first.
func digits(n api.Num) []byte {
	b := make([]byte, numLen)
	for i := range b {
		b[numLen-1-i] = byte(n[i/8] >> (i % 8 * 8))
	}
	return b
}
