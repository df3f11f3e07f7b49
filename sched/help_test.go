package sched_test

import (
	"bytes"
	"crypto/hkdf"
	"crypto/hmac"
	"crypto/sha256"
	"crypto/sha512"
	"encoding/hex"
	"hash"
	"math/rand"
	"strings"
	"testing"

	"drawbridge/api"
)

var hashes = []api.Hash{api.SHA256, api.SHA384, api.SHA512}

var noHashes = []api.Hash{0, 4, -1, 5, 1 << 40, -1 << 62, 257, 1<<32 + 1}

var suites = []api.Suite{api.SuiteAES128, api.SuiteAES256, api.SuiteChaCha}

func random(r *rand.Rand, n int) []byte {
	b := make([]byte, n)
	r.Read(b)
	return b
}

// some are bytes of any length, often none, often as many as a sum has.
func some(r *rand.Rand) []byte {
	switch r.Intn(6) {
	case 0:
		return nil
	case 1:
		return random(r, r.Intn(300))
	}
	return random(r, []int{32, 48, 64}[r.Intn(3)])
}

func text(r *rand.Rand, n int) string { return string(random(r, n)) }

// of is what hexadecimal digits tell, blanks between them or not.
func of(t *testing.T, s string) []byte {
	t.Helper()
	b, err := hex.DecodeString(strings.Join(strings.Fields(s), ""))
	if err != nil {
		t.Fatal(err)
	}
	return b
}

// want holds bytes against others, and writes into them, to see that nobody else has their memory.
func want(t *testing.T, what string, got, want []byte) {
	t.Helper()
	if !bytes.Equal(got, want) {
		t.Fatalf("%s: %x, want %x", what, got, want)
	}
	scribble(got)
}

// scribble changes all of a list, its spare room too.
func scribble(b []byte) {
	b = b[:cap(b)]
	for i := range b {
		b[i] ^= 0x55
	}
}

// What follows is the schedule as the library's HMAC and HKDF make it.

func library(h api.Hash) func() hash.Hash {
	switch h {
	case api.SHA256:
		return sha256.New
	case api.SHA384:
		return sha512.New384
	}
	return sha512.New
}

func size(h api.Hash) int { return library(h)().Size() }

func sumOf(h api.Hash, parts ...[]byte) []byte {
	d := library(h)()
	for _, p := range parts {
		d.Write(p)
	}
	return d.Sum(nil)
}

func expanded(h api.Hash, secret []byte, label string, context []byte, n int) []byte {
	if n == 0 {
		return nil
	}
	info := []byte{byte(n >> 8), byte(n), byte(6 + len(label))}
	info = append(info, "tls13 "+label...)
	info = append(append(info, byte(len(context))), context...)
	b, err := hkdf.Expand(library(h), secret, string(info), n)
	if err != nil {
		panic(err)
	}
	return b
}

func derived(h api.Hash, secret []byte, label string, context []byte) []byte {
	return expanded(h, secret, label, context, size(h))
}

func extracted(h api.Hash, salt, secret []byte) []byte {
	b, err := hkdf.Extract(library(h), secret, salt)
	if err != nil {
		panic(err)
	}
	return b
}

func coded(h api.Hash, key, text []byte) []byte {
	m := hmac.New(library(h), key)
	m.Write(text)
	return m.Sum(nil)
}

func earlyOf(h api.Hash, psk []byte) []byte {
	if len(psk) == 0 {
		psk = make([]byte, size(h))
	}
	return extracted(h, make([]byte, size(h)), psk)
}

func nextOf(h api.Hash, secret, more []byte) []byte {
	return extracted(h, derived(h, secret, "derived", sumOf(h)), more)
}

func finishedOf(h api.Hash, secret, sum []byte) []byte {
	return coded(h, derived(h, secret, "finished", nil), sum)
}

func binderOf(h api.Hash, psk, sum []byte) []byte {
	return finishedOf(h, derived(h, earlyOf(h, psk), "res binder", sumOf(h)), sum)
}

func hashOf(s api.Suite) api.Hash {
	if s == api.SuiteAES256 {
		return api.SHA384
	}
	return api.SHA256
}

func keyLen(s api.Suite) int {
	if s == api.SuiteAES128 {
		return 16
	}
	return 32
}
