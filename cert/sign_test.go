package cert_test

import (
	"bytes"
	"crypto"
	"crypto/ecdsa"
	"crypto/ed25519"
	"crypto/sha256"
	"math"
	"math/big"
	"math/rand"
	"strings"
	"testing"

	"drawbridge/api"
	"drawbridge/cert"
	"drawbridge/der"
)

// order is P-256's.
func order() *big.Int {
	n, ok := new(big.Int).SetString("ffffffff00000000ffffffffffffffffbce6faada7179e84f3b9cac2fc632551", 16)
	if !ok {
		panic("no number")
	}
	return n
}

// bytes32 are a number's bytes, the highest first.
func bytes32(n *big.Int) [32]byte { return [32]byte(n.FillBytes(make([]byte, 32))) }

func plus(n *big.Int, more int64) *big.Int { return new(big.Int).Add(n, big.NewInt(more)) }

// noSecrets are bytes that are no secrets of P-256.
func noSecrets() [][32]byte {
	top := [32]byte(bytes.Repeat([]byte{255}, 32))
	return [][32]byte{{}, bytes32(order()), bytes32(plus(order(), 1)), top}
}

// secrets are some that any kind has.
func secrets() [][32]byte {
	all := [][32]byte{{31: 1}, {31: 2}, {1}, bytes32(plus(order(), -1)), secret(1), secret(255)}
	r := rand.New(rand.NewSource(3))
	for range 12 {
		var s [32]byte
		r.Read(s[:])
		s[0] &= 0x7f
		all = append(all, s)
	}
	return all
}

// signLibrary is a signature as the library makes it, of P-256 with numbers that nobody draws.
func signLibrary(kind api.KeyKind, s [32]byte, text []byte) []byte {
	if kind == api.KeyEd {
		return ed25519.Sign(libraryEd(s), text)
	}
	sum := sha256.Sum256(text)
	sig, err := libraryP256(s).Sign(nil, sum[:], crypto.SHA256)
	if err != nil {
		panic(err)
	}
	return sig
}

func TestPublicAsTheLibrarys(t *testing.T) {
	for _, s := range secrets() {
		for kind := api.KeyEd; kind <= api.KeyP256; kind++ {
			if b, e := cert.Public(kind, s); e != api.OK || !bytes.Equal(b, publicOf(kind, s)) {
				t.Errorf("%d, %x: %x, %d", kind, s, b, e)
			}
		}
	}
}

func TestSignsAsTheLibrary(t *testing.T) {
	r := rand.New(rand.NewSource(4))
	for i, s := range secrets() {
		text := make([]byte, i*17)
		r.Read(text)
		for kind := api.KeyEd; kind <= api.KeyP256; kind++ {
			sig, e := cert.Sign(kind, s, text)
			if e != api.OK || !bytes.Equal(sig, signLibrary(kind, s, text)) {
				t.Errorf("%d, %x, %x: %x, %d", kind, s, text, sig, e)
			}
			if !cert.Verify(kind, publicOf(kind, s), text, sig) {
				t.Errorf("%d, %x, %x: not its own", kind, s, text)
			}
		}
	}
}

func TestSecretsThatAreNone(t *testing.T) {
	for _, s := range noSecrets() {
		if b, e := cert.Public(api.KeyP256, s); e != api.ErrArg || len(b) != 0 {
			t.Errorf("%x: %x, %d", s, b, e)
		}
		if b, e := cert.Sign(api.KeyP256, s, nil); e != api.ErrArg || len(b) != 0 {
			t.Errorf("%x: %x, %d", s, b, e)
		}
		if b, e := cert.Public(api.KeyEd, s); e != api.OK || !bytes.Equal(b, publicOf(api.KeyEd, s)) {
			t.Errorf("%x: %x, %d", s, b, e)
		}
		if b, e := cert.Sign(api.KeyEd, s, nil); e != api.OK || !bytes.Equal(b, signLibrary(api.KeyEd, s, nil)) {
			t.Errorf("%x: %x, %d", s, b, e)
		}
	}
	for _, kind := range []api.KeyKind{0, 3, -1, math.MaxInt, math.MinInt} {
		if b, e := cert.Public(kind, secret(1)); e != api.ErrArg || len(b) != 0 {
			t.Errorf("%d: %x, %d", kind, b, e)
		}
		if b, e := cert.Sign(kind, secret(1), nil); e != api.ErrArg || len(b) != 0 {
			t.Errorf("%d: %x, %d", kind, b, e)
		}
		for right := api.KeyEd; right <= api.KeyP256; right++ {
			if cert.Verify(kind, publicOf(right, secret(1)), nil, signLibrary(right, secret(1), nil)) {
				t.Error(kind, right)
			}
		}
	}
}

func TestVerifyRefuses(t *testing.T) {
	said := text("said")
	for kind := api.KeyEd; kind <= api.KeyP256; kind++ {
		public, sig := publicOf(kind, secret(1)), signLibrary(kind, secret(1), said)
		if !cert.Verify(kind, public, said, sig) {
			t.Error("its own", kind)
		}
		other := 3 - kind
		for what, is := range map[string]bool{
			"another text":           cert.Verify(kind, public, text("sais"), sig),
			"no text":                cert.Verify(kind, public, nil, sig),
			"another key":            cert.Verify(kind, publicOf(kind, secret(2)), said, sig),
			"another kind's key":     cert.Verify(kind, publicOf(other, secret(1)), said, sig),
			"another kind":           cert.Verify(other, public, said, sig),
			"another kind's":         cert.Verify(kind, public, said, signLibrary(other, secret(1), said)),
			"another kind and key":   cert.Verify(other, publicOf(other, secret(1)), said, sig),
			"no signature":           cert.Verify(kind, public, said, nil),
			"no key":                 cert.Verify(kind, nil, said, sig),
			"a key too long":         cert.Verify(kind, append(bytes.Clone(public), 0), said, sig),
			"a key too short":        cert.Verify(kind, public[:len(public)-1], said, sig),
			"a signature too long":   cert.Verify(kind, public, said, append(bytes.Clone(sig), 0)),
			"a signature too short":  cert.Verify(kind, public, said, sig[:len(sig)-1]),
			"a signature of noughts": cert.Verify(kind, public, said, make([]byte, len(sig))),
		} {
			if is {
				t.Error(kind, what)
			}
		}
		for i := range 8 * len(sig) {
			b := bytes.Clone(sig)
			b[i/8] ^= 1 << (i % 8)
			if cert.Verify(kind, public, said, b) {
				t.Error(kind, "a bit of the signature", i)
			}
		}
		for i := range 8 * len(public) {
			b := bytes.Clone(public)
			b[i/8] ^= 1 << (i % 8)
			if cert.Verify(kind, b, said, sig) {
				t.Error(kind, "a bit of the key", i)
			}
		}
	}
}

// Each way to write a signature of P-256 but the one right way is refused, though its numbers are right.
func TestOneWayToWriteASignature(t *testing.T) {
	said, public := text("said"), publicOf(api.KeyP256, secret(1))
	pair, _, _ := der.Items(signLibrary(api.KeyP256, secret(1), said)[2:])
	r, s := pair[0].Body, pair[1].Body
	if !cert.Verify(api.KeyP256, public, said, put(0x30, put(2, r), put(2, s))) {
		t.Fatal("the right way")
	}
	turned := new(big.Int).Sub(order(), new(big.Int).SetBytes(s))
	more := func(b []byte, n *big.Int) []byte {
		return der.PutNum(new(big.Int).Add(new(big.Int).SetBytes(b), n).Bytes())
	}
	great := new(big.Int).Lsh(big.NewInt(1), 256)
	if !cert.Verify(api.KeyP256, public, said, put(0x30, put(2, r), der.PutNum(turned.Bytes()))) {
		t.Error("the order less s is right too")
	}
	for i, sig := range [][]byte{
		put(0x31, put(2, r), put(2, s)),
		put(0x30, put(2, s), put(2, r)),
		put(0x30, put(2, r)),
		put(0x30),
		put(0x30, put(2, r), put(2, s), put(2, s)),
		put(0x30, put(2, r), put(3, s)),
		put(0x30, put(4, r), put(2, s)),
		put(0x30, put(2, append([]byte{0}, r...)), put(2, s)),
		put(0x30, put(2, r), put(2, append([]byte{0, 0}, s...))),
		put(0x30, put(2, r), put(2, s), []byte{0}),
		append(put(0x30, put(2, r), put(2, s)), put(0x30)...),
		append([]byte{0x30, 0x81}, put(0x30, put(2, r), put(2, s))[1:]...),
		append(bytes.Clone(r), s...),
		put(0x30, put(2), put(2, s)),
		put(0x30, put(2, []byte{0}), put(2, s)),
		put(0x30, put(2, r), put(2, []byte{0})),
		put(0x30, more(r, order()), put(2, s)),
		put(0x30, put(2, r), more(s, order())),
		put(0x30, more(r, great), put(2, s)),
		put(0x30, put(2, r), more(s, great)),
		put(0x30, more(r, new(big.Int).Mul(great, big.NewInt(127))), put(2, s)),
		put(0x30, put(2, r), put(2, make([]byte, 60000))),
	} {
		if cert.Verify(api.KeyP256, public, said, sig) {
			t.Errorf("%d: %x", i, sig)
		}
	}
}

// Numbers of few bytes are written with few, and read so.
func TestShortNumbersOfSignatures(t *testing.T) {
	public := publicOf(api.KeyP256, secret(5))
	short := 0
	for i := range 2000 {
		said := []byte{byte(i), byte(i >> 8)}
		sig := signLibrary(api.KeyP256, secret(5), said)
		pair, _, _ := der.Items(sig[2:])
		if len(pair[0].Body) >= 32 && len(pair[1].Body) >= 32 {
			continue
		}
		short++
		got, e := cert.Sign(api.KeyP256, secret(5), said)
		if e != api.OK || !bytes.Equal(got, sig) || !cert.Verify(api.KeyP256, public, said, sig) {
			t.Errorf("%x: %x, %d", sig, got, e)
		}
	}
	if short == 0 {
		t.Error("none")
	}
}

func TestVerifiesTheLibrarys(t *testing.T) {
	r := rand.New(rand.NewSource(6))
	for i, s := range secrets() {
		said := make([]byte, 3*i)
		r.Read(said)
		sum := sha256.Sum256(said)
		sig, err := ecdsa.SignASN1(r, libraryP256(s), sum[:])
		if err != nil {
			t.Fatal(err)
		}
		if !cert.Verify(api.KeyP256, publicOf(api.KeyP256, s), said, sig) {
			t.Errorf("%x", sig)
		}
	}
}

func TestSignKeepsToItsOwnMemory(t *testing.T) {
	for kind := api.KeyEd; kind <= api.KeyP256; kind++ {
		room := append(make([]byte, 0, 300), "said"...)
		public, sig := publicOf(kind, secret(1)), signLibrary(kind, secret(1), room)
		key, longSig := append(make([]byte, 0, 300), public...), append(make([]byte, 0, 300), sig...)
		got, _ := cert.Sign(kind, secret(1), room)
		told, _ := cert.Public(kind, secret(1))
		if !cert.Verify(kind, key, room, longSig) {
			t.Error("verify")
		}
		for _, list := range [][]byte{room, key, longSig} {
			if len(bytes.Trim(list[len(list):300], "\x00")) > 0 {
				t.Error("changed what was handed in")
			}
			spoil(list)
		}
		if !bytes.Equal(got, sig) || !bytes.Equal(told, public) {
			t.Error("shares memory")
		}
		spoil(got)
		spoil(told)
		again, _ := cert.Sign(kind, secret(1), text("said"))
		once, _ := cert.Public(kind, secret(1))
		if !bytes.Equal(again, sig) || !bytes.Equal(once, public) {
			t.Error("kept what it handed out")
		}
	}
}

func TestName(t *testing.T) {
	for _, s := range []string{"", "a", "leaf", "ä\x00\xff", strings.Repeat("n", 100), strings.Repeat("n", 127), strings.Repeat("n", 128), strings.Repeat("n", 300), strings.Repeat("n", 65518)} {
		want := put(0x30, put(0x31, put(0x30, oid("2.5.4.3"), put(0x0c, text(s)))))
		if got := cert.Name(s); !bytes.Equal(got, want) {
			t.Errorf("%d bytes: %x, want %x", len(s), got, want)
		}
	}
	for _, n := range []int{65519, 65523, 65527, 65532, 65535, 65536, 1 << 20} {
		if got := cert.Name(strings.Repeat("n", n)); len(got) != 0 {
			t.Error(n, len(got))
		}
	}
	a := cert.Name("a")
	spoil(a)
	if !bytes.Equal(cert.Name("a"), []byte{0x30, 12, 0x31, 10, 0x30, 8, 6, 3, 0x55, 4, 3, 0x0c, 1, 'a'}) {
		t.Error("kept what it handed out")
	}
}
