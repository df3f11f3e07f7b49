package cert

import (
	"bytes"
	"math/bits"
	"slices"

	"drawbridge/api"
	"drawbridge/der"
)

// putTBS is what is signed, by a kind.
func putTBS(c api.Cert, kind api.KeyKind) []byte {
	return der.Put(tagList,
		der.Put(tagVersion, der.PutNum([]byte{version3})),
		der.PutNum(c.Serial),
		signatureName(kind),
		c.Issuer,
		der.Put(tagList, der.PutTime(c.From), der.PutTime(c.Until)),
		c.Subject,
		der.Put(tagList, keyName(c.Kind), putBytes(c.Key)),
		putExtensions(c))
}

// putBytes are bits that are whole bytes.
func putBytes(b []byte) []byte { return der.Put(tagBits, []byte{0}, b) }

// putExtensions are those that say something; nothing, if none does.
func putExtensions(c api.Cert) []byte {
	var all [][]byte
	if c.CA || c.Path != unsaid {
		all = append(all, putMarked(oidIssues, putIssues(c)))
	}
	if c.Usage != unsaid {
		all = append(all, putMarked(oidUsage, putUsage(c.Usage)))
	}
	if !c.Server || !c.Client || c.Staple {
		all = append(all, putUnmarked(oidPurposes, putPurposes(c)))
	}
	if len(c.Names) > 0 {
		all = append(all, putUnmarked(oidNames, putNames(c.Names)))
	}
	if len(all) == 0 {
		return nil
	}
	return der.Put(tagExts, der.Put(tagList, all...))
}

// putMarked and putUnmarked are an extension that who does not know it must refuse, and one that may be passed over.
func putMarked(name string, body []byte) []byte {
	return der.Put(tagList, der.PutOID(name), putTrue(), der.Put(tagBytes, body))
}

func putUnmarked(name string, body []byte) []byte {
	return der.Put(tagList, der.PutOID(name), der.Put(tagBytes, body))
}

func putTrue() []byte { return der.Put(tagTruth, []byte{255}) }

// putIssues: a Path without CA, or below -1, is written as what Parse refuses.
func putIssues(c api.Cert) []byte {
	var parts [][]byte
	if c.CA {
		parts = append(parts, putTrue())
	}
	if c.Path != unsaid {
		parts = append(parts, der.PutNum(digits(api.Num{uint64(c.Path)})))
	}
	return der.Put(tagList, parts...)
}

// putUsage is one byte, and how many of its lowest bits do not count. Without a bit that is set it is what Parse refuses.
func putUsage(usage int) []byte {
	flags := byte(0)
	if usage&api.UseSign != 0 {
		flags |= bitSign
	}
	if usage&api.UseCert != 0 {
		flags |= bitCert
	}
	return der.Put(tagBits, []byte{byte(bits.TrailingZeros8(flags)), flags})
}

func putPurposes(c api.Cert) []byte {
	var parts [][]byte
	if c.Server {
		parts = append(parts, der.PutOID(oidServer))
	}
	if c.Client {
		parts = append(parts, der.PutOID(oidClient))
	}
	if c.Staple {
		parts = append(parts, der.PutOID(oidStaple))
	}
	return der.Put(tagList, parts...)
}

// putNames: one more than there may be is enough for Parse to refuse them.
func putNames(names []string) []byte {
	var parts [][]byte
	for _, name := range names[:min(len(names), maxNames+1)] {
		parts = append(parts, der.Put(tagHost, []byte(name)))
	}
	return der.Put(tagList, parts...)
}

// saysTheSame: is all alike that a certificate says by itself?
func saysTheSame(a api.Cert, b api.Cert) bool {
	return bytes.Equal(a.Serial, b.Serial) &&
		bytes.Equal(a.Issuer, b.Issuer) &&
		bytes.Equal(a.Subject, b.Subject) &&
		a.From == b.From && a.Until == b.Until &&
		a.Kind == b.Kind && bytes.Equal(a.Key, b.Key) &&
		a.CA == b.CA && a.Path == b.Path && a.Usage == b.Usage &&
		a.Server == b.Server && a.Client == b.Client && a.Staple == b.Staple &&
		slices.Equal(a.Names, b.Names)
}
