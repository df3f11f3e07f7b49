package chain_test

import (
	"bytes"
	"crypto"
	"crypto/ecdsa"
	"crypto/ed25519"
	"crypto/elliptic"
	"crypto/sha256"
	"encoding/asn1"
	"reflect"
	"slices"
	"strconv"
	"strings"
	"testing"

	"drawbridge/api"
	"drawbridge/cert"
)

// put is an item's bytes, with whatever length its body has, told in the one right way.
func put(tag byte, parts ...[]byte) []byte {
	body := bytes.Join(parts, nil)
	n := len(body)
	switch {
	case n < 128:
		return append([]byte{tag, byte(n)}, body...)
	case n < 256:
		return append([]byte{tag, 0x81, byte(n)}, body...)
	case n < 65536:
		return append([]byte{tag, 0x82, byte(n >> 8), byte(n)}, body...)
	}
	panic("no item has so many bytes")
}

func text(s string) []byte { return []byte(s) }

// oid is the item of a name that is made of numbers, as the library writes it.
func oid(s string) []byte {
	var numbers asn1.ObjectIdentifier
	for _, part := range strings.Split(s, ".") {
		n, err := strconv.Atoi(part)
		if err != nil {
			panic(err)
		}
		numbers = append(numbers, n)
	}
	b, err := asn1.Marshal(numbers)
	if err != nil {
		panic(err)
	}
	return b
}

// The kinds' names of signatures.
func nameEd() []byte { return put(0x30, oid("1.3.101.112")) }

func nameCurveSig() []byte { return put(0x30, oid("1.2.840.10045.4.3.2")) }

// secret is one that any kind has.
func secret(first byte) [32]byte { return [32]byte{first, 1, 2, 3, 31: 9} }

// libraryEd and libraryP256 are secrets as the library has them.
func libraryEd(s [32]byte) ed25519.PrivateKey { return ed25519.NewKeyFromSeed(s[:]) }

func libraryP256(s [32]byte) *ecdsa.PrivateKey {
	d, err := ecdsa.ParseRawPrivateKey(elliptic.P256(), s[:])
	if err != nil {
		panic(err)
	}
	return d
}

// publicOf is a secret's key, as the library has it.
func publicOf(kind api.KeyKind, s [32]byte) []byte {
	if kind == api.KeyEd {
		return libraryEd(s).Public().(ed25519.PublicKey)
	}
	b, err := libraryP256(s).PublicKey.Bytes()
	if err != nil {
		panic(err)
	}
	return b
}

// signLibrary is a signature as the library makes it: of P-256 too the only one that may be made.
func signLibrary(kind api.KeyKind, s [32]byte, text []byte) []byte {
	if kind == api.KeyEd {
		return ed25519.Sign(libraryEd(s), text)
	}
	sum := sha256.Sum256(text)
	sig, err := libraryP256(s).Sign(nil, sum[:], crypto.SHA256)
	if err != nil {
		panic(err)
	}
	return sig
}

// verifyLibrary: does the library take a signature?
func verifyLibrary(kind api.KeyKind, key, text, sig []byte) bool {
	switch {
	case kind == api.KeyEd:
		return len(key) == 32 && ed25519.Verify(key, text, sig)
	case kind == api.KeyP256:
		public, err := ecdsa.ParseUncompressedPublicKey(elliptic.P256(), key)
		sum := sha256.Sum256(text)
		return err == nil && ecdsa.VerifyASN1(public, sum[:], sig)
	}
	return false
}

// who is somebody who has certificates, and makes them.
type who struct {
	name   string
	kind   api.KeyKind
	secret [32]byte
}

// made is a certificate of somebody by somebody else, as it is read.
func made(t *testing.T, of, by who, change func(c *api.Cert)) api.Cert {
	t.Helper()
	c := api.Cert{
		Serial: []byte{of.secret[0]}, Issuer: cert.Name(by.name), Subject: cert.Name(of.name), From: 100, Until: 200,
		Kind: of.kind, Key: publicOf(of.kind, of.secret), CA: true, Path: -1, Usage: -1, Server: true, Client: true,
	}
	if change != nil {
		change(&c)
	}
	b, e := cert.Build(c, by.kind, by.secret)
	if e != api.OK {
		t.Fatal(e)
	}
	told, e := cert.Parse(b)
	if e != api.OK {
		t.Fatal(e)
	}
	return told
}

// kinds are both kinds of keys.
func kinds() []api.KeyKind { return []api.KeyKind{api.KeyEd, api.KeyP256} }

// lists are those of bytes that a certificate, or a staple, has.
func lists(v any) []*[]byte {
	var all []*[]byte
	for _, field := range reflect.ValueOf(v).Elem().Fields() {
		if list, is := field.Addr().Interface().(*[]byte); is {
			all = append(all, list)
		}
	}
	return all
}

// twinCert is a certificate alike in memory of its own, with some spare room behind its lists.
func twinCert(c api.Cert) api.Cert {
	for _, list := range lists(&c) {
		*list = append(make([]byte, 0, len(*list)+5), *list...)
	}
	c.Names = append(make([]string, 0, len(c.Names)+5), c.Names...)
	return c
}

// twinStaple is a staple alike in memory of its own, with some spare room behind its lists.
func twinStaple(s api.Staple) api.Staple {
	for _, list := range lists(&s) {
		*list = append(make([]byte, 0, len(*list)+5), *list...)
	}
	return s
}

// sameStaple: is all alike? An empty list may be nil or not.
func sameStaple(a, b api.Staple) bool {
	theirs := lists(&b)
	for i, list := range lists(&a) {
		if !bytes.Equal(*list, *theirs[i]) {
			return false
		}
		*list, *theirs[i] = nil, nil
	}
	return reflect.DeepEqual(a, b)
}

// unused: are all bytes of the spare rooms noughts, as they were?
func unused(all []*[]byte) bool {
	return !slices.ContainsFunc(all, func(list *[]byte) bool {
		return slices.ContainsFunc((*list)[len(*list):cap(*list)], func(c byte) bool { return c != 0 })
	})
}
