package cert

import (
	"bytes"

	"drawbridge/api"
	"drawbridge/der"
	"drawbridge/pcurve"
)

// longYears is the beginning of 2050, from which on a time has four digits of the year.
const longYears = 2524608000

// version3 is how the version 3 is counted.
const version3 = 2

// What is not said of a Path and a Usage.
const unsaid = -1

// certificate is what bytes tell.
func certificate(b []byte) api.Cert {
	parts := badForm.these(badForm.only(b, tagList), tagList, tagList, tagBits)
	c := signedPart(parts[0].Body)
	badAlg.unless(signatureKind(parts[1]) == c.SigKind)
	c.Sig = badForm.whole(parts[2].Body)
	badForm.unless(c.SigKind != api.KeyEd || len(c.Sig) == edSigLen)
	c.Raw, c.TBS = bytes.Clone(b), written(parts[0])
	return c
}

// written are an item's bytes: there is one way alone to write it.
func written(item api.Item) []byte { return der.Put(item.Tag, item.Body) }

// signedPart is what the TBS's body tells.
func signedPart(b []byte) api.Cert {
	tags := []byte{tagVersion, tagNum, tagList, tagList, tagList, tagList, tagList, tagExts}
	all := badForm.items(b)
	some := len(all) == len(tags)
	if !some {
		tags = tags[:len(tags)-1]
	}
	badForm.tagged(all, tags)
	version(all[0].Body)
	c := api.Cert{Path: unsaid, Usage: unsaid, Server: true, Client: true}
	c.Serial = badForm.num(all[1].Body)
	c.SigKind = signatureKind(all[2])
	c.Issuer = written(all[3])
	c.From, c.Until = times(all[4].Body)
	c.Subject = written(all[5])
	c.Kind, c.Key = publicKey(all[6].Body)
	if some {
		extensions(&c, all[7].Body)
	}
	return c
}

// version is the one that has all fields.
func version(b []byte) {
	n := badForm.num(badForm.only(b, tagNum))
	badForm.unless(bytes.Equal(n, []byte{version3}))
}

// times are from when, and until when.
func times(b []byte) (from int64, until int64) {
	all := badForm.items(b)
	badForm.unless(len(all) == 2)
	for _, item := range all {
		badForm.unless(item.Tag == tagShortTime || item.Tag == tagLongTime)
	}
	from, until = moment(all[0]), moment(all[1])
	badTime.unless(from <= until)
	return from, until
}

// moment is a time, which two digits of the year tell where they can.
func moment(item api.Item) int64 {
	t, e := der.Time(item.Tag, item.Body)
	badTime.unless(e == api.OK)
	badTime.unless(item.Tag == tagShortTime || t >= longYears)
	return t
}

// publicKey is whose the certificate is.
func publicKey(b []byte) (api.KeyKind, []byte) {
	all := badForm.these(b, tagList, tagBits)
	kind := keyKind(all[0])
	key := badForm.whole(all[1].Body)
	badForm.unless(fits(kind, key))
	return kind, key
}

// fits: may bytes be a key of a kind?
func fits(kind api.KeyKind, key []byte) bool {
	if kind == api.KeyEd {
		return len(key) == edKeyLen
	}
	_, e := pcurve.Decode(key)
	return e == api.OK
}
