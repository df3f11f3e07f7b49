package chain

import (
	"bytes"

	"drawbridge/api"
	"drawbridge/der"
)

// The tags of a staple's items.
const (
	tagNum       = 0x02
	tagBits      = 0x03
	tagBytes     = 0x04
	tagOID       = 0x06
	tagState     = 0x0a
	tagTime      = 0x18
	tagList      = 0x30
	tagGood      = 0x80
	tagUnknown   = 0x82
	tagAnswer    = 0xa0
	tagUntil     = 0xa0
	tagResponder = 0xa1
	tagRevoked   = 0xa1
)

// anyTag stands where unlike ones may: no item has it.
const anyTag = 0x1f

// The names of what a staple is made of.
const (
	oidAnswer   = "1.3.6.1.5.5.7.48.1.1"
	oidHash     = "2.16.840.1.101.3.4.2.1"
	oidEd       = "1.3.101.112"
	oidCurveSig = "1.2.840.10045.4.3.2"
)

// hashLen is how many bytes a hash has.
const hashLen = 32

// signatureName is a kind's name of a signature; nothing of no kind.
func signatureName(kind api.KeyKind) []byte {
	switch kind {
	case api.KeyEd:
		return der.Put(tagList, der.PutOID(oidEd))
	case api.KeyP256:
		return der.Put(tagList, der.PutOID(oidCurveSig))
	}
	return nil
}

// hashName is the name of the one hash by which issuers are named.
func hashName() []byte { return der.Put(tagList, der.PutOID(oidHash)) }

// done is the state of an answer: there is one.
func done() []byte { return der.Put(tagState, []byte{0}) }

// saysTheSame: is all alike that a staple says by itself?
func saysTheSame(a api.Staple, b api.Staple) bool {
	return saysOfTheSame(a, b) && a.Made == b.Made && a.From == b.From && a.Until == b.Until
}

// saysOfTheSame: does the same issuer say the same of the same certificate, whenever that is?
func saysOfTheSame(a api.Staple, b api.Staple) bool {
	return a.Good == b.Good &&
		bytes.Equal(a.Responder, b.Responder) &&
		bytes.Equal(a.NameHash, b.NameHash) &&
		bytes.Equal(a.KeyHash, b.KeyHash) &&
		bytes.Equal(a.Serial, b.Serial)
}

// putStaple are a staple's bytes.
func putStaple(tbs []byte, kind api.KeyKind, sig []byte) []byte {
	basic := der.Put(tagList, tbs, signatureName(kind), der.Put(tagBits, []byte{0}, sig))
	answer := der.Put(tagList, der.PutOID(oidAnswer), der.Put(tagBytes, basic))
	return der.Put(tagList, done(), der.Put(tagAnswer, answer))
}

// putTBS is what is signed.
func putTBS(s api.Staple) []byte {
	about := der.Put(tagList, hashName(), der.Put(tagBytes, s.NameHash), der.Put(tagBytes, s.KeyHash), der.PutNum(s.Serial))
	single := der.Put(tagList, about, putStatus(s.Good), putTime(s.From), der.Put(tagUntil, putTime(s.Until)))
	return der.Put(tagList, der.Put(tagResponder, s.Responder), putTime(s.Made), der.Put(tagList, single))
}

func putStatus(good bool) []byte {
	if good {
		return der.Put(tagGood)
	}
	return der.Put(tagUnknown)
}

// putTime is a time with four digits of the year, also where two would do; nothing, if there is none.
func putTime(t int64) []byte {
	item, e := der.Next(der.PutTime(t), 0)
	if e != api.OK {
		return nil
	}
	if item.Tag == tagTime {
		return der.Put(tagTime, item.Body)
	}
	century := []byte("20")
	if item.Body[0] >= '5' {
		century = []byte("19")
	}
	return der.Put(tagTime, century, item.Body)
}
