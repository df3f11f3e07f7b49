package cert

import (
	"bytes"

	"drawbridge/api"
	"drawbridge/der"
)

// The names of which kinds' names are made, and of a name's word.
const (
	oidEd         = "1.3.101.112"
	oidCurveKey   = "1.2.840.10045.2.1"
	oidP256       = "1.2.840.10045.3.1.7"
	oidCurveSig   = "1.2.840.10045.4.3.2"
	oidCommonName = "2.5.4.3"
)

// keyName is a kind's name of a key; nothing of no kind.
func keyName(kind api.KeyKind) []byte {
	switch kind {
	case api.KeyEd:
		return der.Put(tagList, der.PutOID(oidEd))
	case api.KeyP256:
		return der.Put(tagList, der.PutOID(oidCurveKey), der.PutOID(oidP256))
	}
	return nil
}

// signatureName is a kind's name of a signature; nothing of no kind.
func signatureName(kind api.KeyKind) []byte {
	switch kind {
	case api.KeyEd:
		return der.Put(tagList, der.PutOID(oidEd))
	case api.KeyP256:
		return der.Put(tagList, der.PutOID(oidCurveSig))
	}
	return nil
}

// keyKind and signatureKind are the kinds that an item names.
func keyKind(item api.Item) api.KeyKind { return kindNamed(item, keyName) }

func signatureKind(item api.Item) api.KeyKind { return kindNamed(item, signatureName) }

// kindNamed is the kind whose name an item is.
func kindNamed(item api.Item, nameOf func(api.KeyKind) []byte) api.KeyKind {
	name, kind := written(item), api.KeyEd
	if !bytes.Equal(name, nameOf(kind)) {
		kind = api.KeyP256
	}
	badAlg.unless(bytes.Equal(name, nameOf(kind)))
	return kind
}
