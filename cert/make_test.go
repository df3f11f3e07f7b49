package cert_test

import (
	"bytes"
	"crypto/ecdsa"
	"crypto/ed25519"
	"crypto/elliptic"
	"encoding/asn1"
	"reflect"
	"slices"
	"strconv"
	"strings"

	"drawbridge/api"
)

// put is an item's bytes, with whatever length its body has, told in the one right way.
func put(tag byte, parts ...[]byte) []byte {
	body := bytes.Join(parts, nil)
	n := len(body)
	switch {
	case n < 128:
		return append([]byte{tag, byte(n)}, body...)
	case n < 256:
		return append([]byte{tag, 0x81, byte(n)}, body...)
	case n < 65536:
		return append([]byte{tag, 0x82, byte(n >> 8), byte(n)}, body...)
	}
	panic("no item has so many bytes")
}

func text(s string) []byte { return []byte(s) }

// oid is the item of a name that is made of numbers, as the library writes it.
func oid(s string) []byte {
	var numbers asn1.ObjectIdentifier
	for _, part := range strings.Split(s, ".") {
		n, err := strconv.Atoi(part)
		if err != nil {
			panic(err)
		}
		numbers = append(numbers, n)
	}
	b, err := asn1.Marshal(numbers)
	if err != nil {
		panic(err)
	}
	return b
}

// The kinds' names.
func nameEd() []byte { return put(0x30, oid("1.3.101.112")) }

func nameCurveKey() []byte { return put(0x30, oid("1.2.840.10045.2.1"), oid("1.2.840.10045.3.1.7")) }

func nameCurveSig() []byte { return put(0x30, oid("1.2.840.10045.4.3.2")) }

func nameRSA() []byte { return put(0x30, oid("1.2.840.113549.1.1.11"), put(0x05)) }

// extension is one that is not marked, marked one that is.
func extension(name string, body ...[]byte) []byte {
	return put(0x30, oid(name), put(0x04, body...))
}

func marked(name string, body ...[]byte) []byte {
	return put(0x30, oid(name), yes(), put(0x04, body...))
}

func yes() []byte { return put(0x01, []byte{255}) }

func no() []byte { return put(0x01, []byte{0}) }

// key is an item of bits that are whole bytes.
func key(b []byte) []byte { return put(0x03, []byte{0}, b) }

// secret is one that any kind has.
func secret(first byte) [32]byte { return [32]byte{first, 1, 2, 3, 31: 9} }

// libraryEd and libraryP256 are secrets as the library has them.
func libraryEd(s [32]byte) ed25519.PrivateKey { return ed25519.NewKeyFromSeed(s[:]) }

func libraryP256(s [32]byte) *ecdsa.PrivateKey {
	d, err := ecdsa.ParseRawPrivateKey(elliptic.P256(), s[:])
	if err != nil {
		panic(err)
	}
	return d
}

// publicOf is a secret's key, as the library has it.
func publicOf(kind api.KeyKind, s [32]byte) []byte {
	if kind == api.KeyEd {
		return libraryEd(s).Public().(ed25519.PublicKey)
	}
	b, err := libraryP256(s).PublicKey.Bytes()
	if err != nil {
		panic(err)
	}
	return b
}

// pieces are the items of a certificate, each of which may be another one.
type pieces struct {
	version, serial, inner, issuer, times, subject, key, exts []byte
	more                                                      []byte // behind the TBS's items
	outer, sig                                                []byte
	last                                                      []byte // behind the three
	tag, tbsTag                                               byte   // of the whole, and of the TBS
	behind                                                    []byte // behind the whole
}

func (p pieces) tbs() []byte {
	return put(p.tbsTag, p.version, p.serial, p.inner, p.issuer, p.times, p.subject, p.key, p.exts, p.more)
}

func (p pieces) bytes() []byte {
	return append(put(p.tag, p.tbs(), p.outer, p.sig, p.last), p.behind...)
}

// withExts are the pieces with these extensions.
func (p pieces) withExts(all ...[]byte) pieces {
	p.exts = put(0xa3, put(0x30, all...))
	return p
}

// plain are the pieces of a certificate of a key of Ed25519, signed by P-256, with all extensions.
func plain() pieces {
	return pieces{
		version: put(0xa0, put(0x02, []byte{2})),
		serial:  put(0x02, []byte{1, 200}),
		inner:   nameCurveSig(),
		issuer:  put(0x30, text("issuer")),
		times:   put(0x30, put(0x17, text("700101001640Z")), put(0x18, text("20500101000000Z"))),
		subject: put(0x30),
		key:     put(0x30, nameEd(), key(publicOf(api.KeyEd, secret(1)))),
		outer:   nameCurveSig(),
		sig:     key([]byte{5, 6, 7}),
		tag:     0x30,
		tbsTag:  0x30,
	}.withExts(
		marked("2.5.29.19", put(0x30, yes(), put(0x02, []byte{3}))),
		marked("2.5.29.15", put(0x03, []byte{2, 0x84})),
		extension("2.5.29.37", put(0x30, oid("1.3.6.1.5.5.7.3.1"), oid("1.3.6.1.5.5.7.3.9"))),
		extension("2.5.29.14", put(0x04, text("passed over"))),
		extension("2.5.29.17", put(0x30, put(0x82, text("a.b")), put(0x87, []byte{1, 2, 3, 4}), put(0x82, text("*.c.d")))),
	)
}

// plainCert is what they tell.
func plainCert() api.Cert {
	p := plain()
	return api.Cert{
		Raw: p.bytes(), TBS: p.tbs(), Serial: []byte{1, 200}, SigKind: api.KeyP256,
		Issuer: p.issuer, Subject: p.subject, From: 1000, Until: 2524608000,
		Kind: api.KeyEd, Key: publicOf(api.KeyEd, secret(1)), Sig: []byte{5, 6, 7},
		CA: true, Path: 3, Usage: api.UseSign | api.UseCert, Server: true, Staple: true,
		Names: []string{"a.b", "*.c.d"},
	}
}

// turned are the pieces of one whose kinds are the other ones, without extensions.
func turned() pieces {
	p := plain()
	p.inner, p.outer = nameEd(), nameEd()
	p.key = put(0x30, nameCurveKey(), key(publicOf(api.KeyP256, secret(1))))
	p.sig = key(make([]byte, 64))
	p.exts = nil
	return p
}

func turnedCert() api.Cert {
	p := turned()
	return api.Cert{
		Raw: p.bytes(), TBS: p.tbs(), Serial: []byte{1, 200}, SigKind: api.KeyEd,
		Issuer: p.issuer, Subject: p.subject, From: 1000, Until: 2524608000,
		Kind: api.KeyP256, Key: publicOf(api.KeyP256, secret(1)), Sig: make([]byte, 64),
		Path: -1, Usage: -1, Server: true, Client: true,
	}
}

// lists are those of bytes that a certificate has.
func lists(c *api.Cert) []*[]byte {
	return []*[]byte{&c.Raw, &c.TBS, &c.Serial, &c.Issuer, &c.Subject, &c.Key, &c.Sig}
}

// same: is all alike? An empty list may be nil or not.
func same(a, b api.Cert) bool {
	theirs := lists(&b)
	for i, list := range lists(&a) {
		if !bytes.Equal(*list, *theirs[i]) {
			return false
		}
		*list, *theirs[i] = nil, nil
	}
	names := slices.Equal(a.Names, b.Names)
	a.Names, b.Names = nil, nil
	return names && reflect.DeepEqual(a, b)
}

// isZero: is nothing told?
func isZero(c api.Cert) bool { return same(c, api.Cert{}) }
