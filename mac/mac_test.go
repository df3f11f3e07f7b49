package mac_test

import (
	"bytes"
	"crypto/hmac"
	"crypto/sha256"
	"crypto/sha512"
	"encoding/hex"
	"hash"
	"math"
	"math/rand"
	"strings"
	"testing"

	"drawbridge/api"
	"drawbridge/mac"
	"drawbridge/sha"
)

var hashes = []api.Hash{api.SHA256, api.SHA384, api.SHA512}

var noHashes = []api.Hash{0, 4, -1, 5, 1 << 40, math.MinInt, math.MaxInt, 257, 1<<32 + 1}

func maker(h api.Hash) func() hash.Hash {
	switch h {
	case api.SHA256:
		return sha256.New
	case api.SHA384:
		return sha512.New384
	}
	return sha512.New
}

// right is the code by the library.
func right(h api.Hash, key []byte, all []byte) []byte {
	m := hmac.New(maker(h), key)
	m.Write(all)
	return m.Sum(nil)
}

// rightExpand is Expand by the library's codes, step by step as the document tells it.
func rightExpand(h api.Hash, key []byte, info []byte, n int) []byte {
	var all, last []byte
	for i := 1; i <= 255; i++ {
		text := append(bytes.Clone(last), info...)
		last = right(h, key, append(text, byte(i)))
		all = append(all, last...)
	}
	return all[:n]
}

func random(r *rand.Rand, n int) []byte {
	b := make([]byte, n)
	r.Read(b)
	return b
}

func unhex(t *testing.T, s string) []byte {
	t.Helper()
	b, err := hex.DecodeString(s)
	if err != nil {
		t.Fatal(err)
	}
	return b
}

// span is the bytes from one to another.
func span(from, to int) []byte {
	var b []byte
	for c := from; c <= to; c++ {
		b = append(b, byte(c))
	}
	return b
}

// spoil writes into all memory of a list, to see that nobody else has it.
func spoil(b []byte) {
	b = b[:cap(b)]
	for i := range b {
		b[i] ^= 0xff
	}
}

func want(t *testing.T, what string, h api.Hash, got, right []byte) {
	t.Helper()
	if !bytes.Equal(got, right) {
		t.Fatalf("%s, hash %d: %x, want %x", what, h, got, right)
	}
	spoil(got)
}

func TestExamples(t *testing.T) {
	if b := mac.Of(api.SHA256, []byte("Jefe"), []byte("what do ya want for nothing?")); !strings.HasPrefix(hex.EncodeToString(b), "5bdcc146bf60754e") || len(b) != 32 {
		t.Errorf("Of: %x", b)
	}
	key := mac.Extract(api.SHA256, span(0, 0x0c), bytes.Repeat([]byte{0x0b}, 22))
	if !strings.HasPrefix(hex.EncodeToString(key), "077709362c2e32df") || len(key) != 32 {
		t.Errorf("Extract: %x", key)
	}
	b, e := mac.Expand(api.SHA256, key, span(0xf0, 0xf9), 42)
	if e != api.OK || !strings.HasPrefix(hex.EncodeToString(b), "3cb25f25faacd57a") || len(b) != 42 {
		t.Errorf("Expand: %x %d", b, e)
	}
}

// Codes that RFC 4231 tells, by all three hashes.
func TestTold(t *testing.T) {
	told := []string{
		"5bdcc146bf60754e6a042426089575c75a003f089d2739839dec58b964ec3843",
		"af45d2e376484031617f78d2b58a6b1b9c7ef464f5a01b47e42ec3736322445e8e2240ca5e69e2c78b3239ecfab21649",
		"164b7a7bfcf819e2e395fbe73b56e0a387bd64222e831fd610270cd7ea2505549758bf75c05a994a6d034f65f8f0e6fdcaeab1a34d4a6b4b636e070a38bce737",
	}
	for i, h := range hashes {
		want(t, "Of", h, mac.Of(h, []byte("Jefe"), []byte("what do ya want for nothing?")), unhex(t, told[i]))
	}
}

// Keys that RFC 5869 tells: long ones, and one without salt and info.
func TestToldKeys(t *testing.T) {
	key := mac.Extract(api.SHA256, span(0x60, 0xaf), span(0, 0x4f))
	want(t, "Extract", api.SHA256, bytes.Clone(key), unhex(t, "06a6b88c5853361a06104c9ceb35b45cef760014904671014a193f40c15fc244"))
	b, e := mac.Expand(api.SHA256, key, span(0xb0, 0xff), 82)
	want(t, "Expand", api.SHA256, b, unhex(t, "b11e398dc80327a1c8e7f78c596a49344f012eda2d4efad8a050cc4c19afa97c59045a99cac7827271cb41c65e590e09da3275600c2f09b8367793a9aca3db71cc30c58179ec3e87c14c01d5c1f3434f1d87"))
	if e != api.OK {
		t.Error(e)
	}
	key = mac.Extract(api.SHA256, nil, bytes.Repeat([]byte{0x0b}, 22))
	want(t, "Extract", api.SHA256, bytes.Clone(key), unhex(t, "19ef24a32c717b167f33a91d6f648bdf96596776afdb6377ac434c1c293ccb04"))
	b, _ = mac.Expand(api.SHA256, key, nil, 42)
	want(t, "Expand", api.SHA256, b, unhex(t, "8da4e775a563c18f715f802a063c5a31b8a11f5c5ee1879ec3454e5f3c738d2d9d201395faa4b61a96c8"))
}

// Keys of every length about a block: at a block they are taken as they are, beyond it their sum is.
func TestKeyLengths(t *testing.T) {
	r := rand.New(rand.NewSource(1))
	room := random(r, 300)
	text := random(r, 77)
	for _, h := range hashes {
		for n := range room {
			want(t, "Of", h, mac.Of(h, room[:n], text), right(h, room[:n], text))
			want(t, "Of nothing", h, mac.Of(h, room[:n]), right(h, room[:n], nil))
		}
		want(t, "no key", h, mac.Of(h, nil, text), right(h, nil, text))
		block := sha.Block(h)
		long := room[:block+1]
		want(t, "sum as key", h, mac.Of(h, long, text), mac.Of(h, sha.Of(h, long), text))
		filled := append(bytes.Clone(room[:10]), make([]byte, block-10)...)
		want(t, "filled up", h, mac.Of(h, room[:10], text), mac.Of(h, filled, text))
	}
}

// P6.2: the code of parts is that of all of them as one.
func TestParts(t *testing.T) {
	r := rand.New(rand.NewSource(2))
	for range 2000 {
		h := hashes[r.Intn(3)]
		key := random(r, r.Intn(200))
		var parts [][]byte
		var all []byte
		for range r.Intn(6) {
			p := random(r, r.Intn(200))
			if r.Intn(4) == 0 {
				p = nil
			}
			parts = append(parts, p)
			all = append(all, p...)
		}
		want(t, "parts", h, mac.Of(h, key, parts...), right(h, key, all))
		want(t, "as one", h, mac.Of(h, key, all), right(h, key, all))
	}
	one := []byte("a")
	for _, h := range hashes {
		want(t, "one part often", h, mac.Of(h, one, one, one, one), right(h, one, []byte("aaa")))
		want(t, "parts of nothing", h, mac.Of(h, one, nil, nil, []byte{}), right(h, one, nil))
	}
}

func TestExtract(t *testing.T) {
	r := rand.New(rand.NewSource(3))
	for _, h := range hashes {
		for n := range 150 {
			salt, secret := random(r, n), random(r, r.Intn(150))
			want(t, "Extract", h, mac.Extract(h, salt, secret), right(h, salt, secret))
		}
		secret := random(r, 32)
		want(t, "no salt", h, mac.Extract(h, nil, secret), mac.Extract(h, make([]byte, sha.Size(h)), secret))
		want(t, "no secret", h, mac.Extract(h, secret, nil), right(h, secret, nil))
	}
}

// P6.2: Expand of fewer bytes is the beginning of Expand of more; at every length about the ends of the turns, and the most of all.
func TestExpand(t *testing.T) {
	r := rand.New(rand.NewSource(4))
	for _, h := range hashes {
		size := sha.Size(h)
		for _, info := range [][]byte{nil, []byte("info"), random(r, 300)} {
			key := random(r, 1+r.Intn(200))
			most := 255 * size
			all := rightExpand(h, key, info, most)
			for n := range 300 {
				wantExpand(t, h, key, info, all[:n])
			}
			for _, turn := range []int{7, 128, 254, 255} {
				for n := turn*size - 2; n <= min(turn*size+2, most); n++ {
					wantExpand(t, h, key, info, all[:n])
				}
			}
		}
	}
}

func wantExpand(t *testing.T, h api.Hash, key, info, all []byte) {
	t.Helper()
	b, e := mac.Expand(h, key, info, len(all))
	if e != api.OK {
		t.Fatal("Expand", h, len(all), e)
	}
	want(t, "Expand", h, b, all)
}

func TestExpandErrors(t *testing.T) {
	key := []byte("key")
	for _, h := range hashes {
		for _, n := range []int{-1, -2, math.MinInt, 255*sha.Size(h) + 1, 256 * sha.Size(h), 1 << 40, math.MaxInt} {
			if b, e := mac.Expand(h, key, nil, n); e != api.ErrArg || len(b) != 0 {
				t.Error(h, n, len(b), e)
			}
		}
		if b, e := mac.Expand(h, nil, nil, 0); e != api.OK || len(b) != 0 {
			t.Error("none", h, len(b), e)
		}
	}
	for _, h := range noHashes {
		for _, n := range []int{0, 1, 32, -1, math.MaxInt} {
			if b, e := mac.Expand(h, key, nil, n); e != api.ErrArg || len(b) != 0 {
				t.Error("no hash", h, n, len(b), e)
			}
		}
		if len(mac.Of(h, key, key)) != 0 || len(mac.Of(h, nil)) != 0 || len(mac.Of(h, make([]byte, 500), key)) != 0 || len(mac.Extract(h, key, key)) != 0 {
			t.Error("no hash", h)
		}
	}
}

func TestSame(t *testing.T) {
	r := rand.New(rand.NewSource(5))
	for n := range 70 {
		a := random(r, n)
		b := bytes.Clone(a)
		if !mac.Same(a, b) || !mac.Same(a, a) {
			t.Fatal("same", n)
		}
		if mac.Same(a, append(bytes.Clone(b), 0)) || mac.Same(append(bytes.Clone(a), 0), b) {
			t.Fatal("longer", n)
		}
		for i := range b {
			for bit := range 8 {
				b[i] ^= 1 << bit
				if mac.Same(a, b) || mac.Same(b, a) {
					t.Fatal("unlike", n, i, bit)
				}
				b[i] ^= 1 << bit
			}
		}
	}
	if !mac.Same(nil, nil) || !mac.Same(nil, []byte{}) || mac.Same(nil, []byte{0}) || mac.Same([]byte{0}, nil) {
		t.Error("nothing")
	}
	if mac.Same([]byte{1, 1}, []byte{0, 0}) || mac.Same([]byte{1, 2}, []byte{2, 1}) {
		t.Error("differences that would cancel each other")
	}
}

func TestListsAreLeftAlone(t *testing.T) {
	r := rand.New(rand.NewSource(6))
	for range 500 {
		h := hashes[r.Intn(3)]
		room := random(r, 400)
		was := bytes.Clone(room)
		i, j := r.Intn(200), r.Intn(200)
		parts := [][]byte{room[:j], room[j : j+20]}
		mac.Of(h, room[:i], parts...)
		mac.Extract(h, room[:i], room[:j])
		mac.Expand(h, room[:i], room[:j], r.Intn(300))
		mac.Same(room[:i], room[:j])
		if !bytes.Equal(room, was) || len(parts[0]) != j || len(parts[1]) != 20 {
			t.Fatal("changed", h, i, j)
		}
	}
}
