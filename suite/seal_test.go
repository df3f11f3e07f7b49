package suite_test

import (
	"bytes"
	"crypto/aes"
	"crypto/cipher"
	"encoding/hex"
	"math/rand"
	"sync"
	"testing"

	"drawbridge/api"
	"drawbridge/chacha"
	"drawbridge/gcm"
	"drawbridge/suite"
)

// below is what the layer below makes: gcm by the first two suites, chacha by the third.
func below(t *testing.T, s api.Suite, key []byte, nonce [12]byte, aside, text []byte) []byte {
	t.Helper()
	if s == api.SuiteChaCha {
		return chacha.Seal([32]byte(key), nonce, aside, text)
	}
	b, e := gcm.Seal(key, nonce, aside, text)
	if e != api.OK {
		t.Fatal(e)
	}
	return b
}

// library is the library's own lock of AES.
func library(t *testing.T, key []byte) cipher.AEAD {
	t.Helper()
	block, err := aes.NewCipher(key)
	if err != nil {
		t.Fatal(err)
	}
	lock, err := cipher.NewGCM(block)
	if err != nil {
		t.Fatal(err)
	}
	return lock
}

// sealed is what Seal makes, which must be no error.
func sealed(t *testing.T, s api.Suite, key []byte, nonce [12]byte, aside, text []byte) []byte {
	t.Helper()
	b, e := suite.Seal(s, key, nonce, aside, text)
	if e != api.OK || len(b) != len(text)+16 {
		t.Fatalf("Seal by suite %x of %d bytes: %d bytes, %v", s, len(text), len(b), e)
	}
	return b
}

// opens: Open answers the text.
func opens(t *testing.T, s api.Suite, key []byte, nonce [12]byte, aside, b, text []byte) {
	t.Helper()
	got, e := suite.Open(s, key, nonce, aside, b)
	if e != api.OK || !bytes.Equal(got, text) {
		t.Fatalf("suite %x, key %x, nonce %x, aside %x, sealed %x: %x, %v, want %x", s, key, nonce, aside, b, got, e, text)
	}
}

// fails: Open answers this error, and nothing else.
func fails(t *testing.T, why string, want api.Errno, s api.Suite, key []byte, nonce [12]byte, aside, b []byte) {
	t.Helper()
	if got, e := suite.Open(s, key, nonce, aside, b); len(got) != 0 || e != want {
		t.Fatalf("%s: suite %x, key %x, nonce %x, aside %x, sealed %x: %x, %v, want %v", why, s, key, nonce, aside, b, got, e, want)
	}
}

func refused(t *testing.T, why string, s api.Suite, key []byte, nonce [12]byte, aside, b []byte) {
	t.Helper()
	fails(t, why, api.ErrSuiteOpen, s, key, nonce, aside, b)
}

const (
	sunscreen = "Ladies and Gentlemen of the class of '99: If I could offer you only one tip for the future, sunscreen would be it."
	shortText = "d9313225f88406e5a55909c5aff5269a86a7a9531534f7da2e4c303d8a318a721c3c0c95956809532fcf0e2449a6b525b16aedf5aa0de657ba637b39"
	toldAside = "feedfacedeadbeeffeedfacedeadbeefabaddad2"
	toldNonce = "cafebabefacedbaddecaf888"
	toldKey   = "feffe9928665731c6d6a8f9467308308"
)

// TestToldSeals: those that the papers of the ciphers tell.
func TestToldSeals(t *testing.T) {
	for _, c := range []struct {
		suite                         api.Suite
		key, nonce, aside, text, want string
	}{
		{0x1301, "00000000000000000000000000000000", "000000000000000000000000", "", "", "58e2fccefa7e3061367f1d57a4e7455a"},
		{0x1301, toldKey, toldNonce, toldAside, shortText, "42831ec2217774244b7221b784d0d49ce3aa212f2c02a4e035c17e2329aca12e21d514b25466931c7d8f6a5aac84aa051ba30b396a0aac973d58e0915bc94fbc3221a5db94fae95ae7121a47"},
		{0x1302, toldKey + toldKey, toldNonce, toldAside, shortText, "522dc1f099567d07f47f37a32a84427d643a8cdcbfe5c0c97598a2bd2555d1aa8cb08e48590dbb3da7b08b1056828838c5f61e6393ba7a0abcc9f66276fc6ece0f4e1768cddf8853bb2d551b"},
		{0x1303, "808182838485868788898a8b8c8d8e8f909192939495969798999a9b9c9d9e9f", "070000004041424344454647", "50515253c0c1c2c3c4c5c6c7", hex.EncodeToString([]byte(sunscreen)), "d31a8d34648e60db7b86afbc53ef7ec2a4aded51296e08fea9e2b5a736ee62d63dbea45e8ca9671282fafb69da92728b1a71de0a9e060b2905d6a5b67ecd3b3692ddbd7f2d778b8c9803aee328091b58fab324e4fad675945585808b4831d7bc3ff4def08e4b7a9de576d26586cec64b61161ae10b594f09e26a7e902ecbd0600691"},
	} {
		key, nonce, aside := unhex(t, c.key), [12]byte(unhex(t, c.nonce)), unhex(t, c.aside)
		got := sealed(t, c.suite, key, nonce, aside, unhex(t, c.text))
		if hex.EncodeToString(got) != c.want {
			t.Errorf("suite %x: %x, want %s", c.suite, got, c.want)
		}
		opens(t, c.suite, key, nonce, aside, unhex(t, c.want), unhex(t, c.text))
	}
}

// TestToldRecords: two records of a client that RFC 8448 tells, of the numbers 0 and 1.
func TestToldRecords(t *testing.T) {
	key := unhex(t, "17422dda596ed5d9acd890e3c63f5051")
	iv := [12]byte(unhex(t, "5b78923dee08579033e523d9"))
	data := make([]byte, 51)
	for i := range 50 {
		data[i] = byte(i)
	}
	data[50] = 23
	for seq, c := range []struct {
		aside, want string
		text        []byte
	}{
		{"1703030043", "a23f7054b62c94d0affafe8228ba55cbefacea42f914aa66bcab3f2b9819a8a5b46b395bd54a9a20441e2b62974e1f5a6292a2977014bd1e3deae63aeebb21694915e4", data},
		{"1703030013", "c9872760655666b74d7ff1153efd6db6d0b0e3", []byte{1, 0, 21}},
	} {
		nonce := suite.Nonce(iv, uint64(seq))
		got := sealed(t, api.SuiteAES128, key, nonce, unhex(t, c.aside), c.text)
		if hex.EncodeToString(got) != c.want {
			t.Errorf("record %d: %x, want %s", seq, got, c.want)
		}
		opens(t, api.SuiteAES128, key, nonce, unhex(t, c.aside), got, c.text)
		refused(t, "another number", api.SuiteAES128, key, suite.Nonce(iv, uint64(1-seq)), unhex(t, c.aside), got)
	}
}

// TestAsBelow: what gcm and chacha make, and the library's own lock of AES; there and back.
func TestAsBelow(t *testing.T) {
	r := rand.New(rand.NewSource(11))
	for _, row := range rows() {
		for text := range 70 {
			for _, aside := range []int{0, 5, 16, r.Intn(100)} {
				key, nonce, a, b := random(r, row.key), randomNonce(r), random(r, aside), random(r, text)
				got := sealed(t, row.suite, key, nonce, a, b)
				if want := below(t, row.suite, key, nonce, a, b); !bytes.Equal(got, want) {
					t.Fatalf("suite %x, key %x, nonce %x, aside %x, text %x: %x, want %x", row.suite, key, nonce, a, b, got, want)
				}
				if row.suite != api.SuiteChaCha && !bytes.Equal(got, library(t, key).Seal(nil, nonce[:], b, a)) {
					t.Fatalf("suite %x, key %x: not as the library", row.suite, key)
				}
				opens(t, row.suite, key, nonce, a, got, b)
			}
		}
	}
}

func TestLongSeals(t *testing.T) {
	r := rand.New(rand.NewSource(12))
	for _, row := range rows() {
		for _, n := range []int{16384, 16384 + 256, 1<<18 + 7} {
			key, nonce, a, b := random(r, row.key), randomNonce(r), random(r, 1<<16+5), random(r, n)
			got := sealed(t, row.suite, key, nonce, a, b)
			if !bytes.Equal(got, below(t, row.suite, key, nonce, a, b)) {
				t.Fatalf("suite %x, %d bytes: another seal", row.suite, n)
			}
			if back, e := suite.Open(row.suite, key, nonce, a, got); e != api.OK || !bytes.Equal(back, b) {
				t.Fatalf("suite %x, %d bytes: there and back is something else, %v", row.suite, n, e)
			}
		}
	}
}

// TestSealsOfNothing: no text, no aside, whether nil or empty.
func TestSealsOfNothing(t *testing.T) {
	for _, row := range rows() {
		key := make([]byte, row.key)
		want := below(t, row.suite, key, [12]byte{}, nil, nil)
		for _, none := range [][]byte{nil, {}, make([]byte, 0, 32)} {
			if b := sealed(t, row.suite, key, [12]byte{}, none, none); !bytes.Equal(b, want) {
				t.Errorf("suite %x: a seal of nothing: %x, want %x", row.suite, b, want)
			}
			opens(t, row.suite, key, [12]byte{}, none, want, nil)
		}
	}
}

// TestOpenedWasSealed: what is opened is sealed again the same, also where it was not Seal that made it.
func TestOpenedWasSealed(t *testing.T) {
	r := rand.New(rand.NewSource(13))
	for _, row := range rows() {
		for length := range 50 {
			key, nonce, a := random(r, row.key), randomNonce(r), random(r, r.Intn(40))
			b := below(t, row.suite, key, nonce, a, random(r, length))
			text, e := suite.Open(row.suite, key, nonce, a, b)
			if e != api.OK {
				t.Fatalf("suite %x, sealed %x: %v", row.suite, b, e)
			}
			if again := sealed(t, row.suite, key, nonce, a, text); !bytes.Equal(again, b) {
				t.Fatalf("suite %x: opened was %x, sealed again is %x", row.suite, b, again)
			}
			for place := length; place < len(b); place++ {
				bad := bytes.Clone(b)
				bad[place] += byte(1 + r.Intn(255))
				refused(t, "another tag", row.suite, key, nonce, a, bad)
			}
		}
	}
}

// TestEachBitTurned: of the key, the nonce, the aside, the locked text and the tag.
func TestEachBitTurned(t *testing.T) {
	r := rand.New(rand.NewSource(14))
	for _, row := range rows() {
		for _, length := range []int{0, 1, 16, 37} {
			key, nonce, aside, text := random(r, row.key), randomNonce(r), random(r, 21), random(r, length)
			b := sealed(t, row.suite, key, nonce, aside, text)
			for _, part := range []struct {
				name  string
				bytes []byte
			}{{"key", key}, {"nonce", nonce[:]}, {"aside", aside}, {"sealed", b}} {
				for bit := range 8 * len(part.bytes) {
					part.bytes[bit/8] ^= 1 << (bit % 8)
					refused(t, "a bit turned of "+part.name, row.suite, key, nonce, aside, b)
					part.bytes[bit/8] ^= 1 << (bit % 8)
				}
			}
			opens(t, row.suite, key, nonce, aside, b, text)
		}
	}
}

func TestOtherLengths(t *testing.T) {
	r := rand.New(rand.NewSource(15))
	for _, row := range rows() {
		key, nonce, aside := random(r, row.key), randomNonce(r), make([]byte, 16)
		b := sealed(t, row.suite, key, nonce, aside, make([]byte, 40))
		for n := range b {
			refused(t, "cut off at the end", row.suite, key, nonce, aside, b[:n])
			refused(t, "cut off at the beginning", row.suite, key, nonce, aside, b[n+1:])
		}
		for n := range 16 {
			refused(t, "less than a tag", row.suite, key, nonce, aside, make([]byte, n))
		}
		refused(t, "nil", row.suite, key, nonce, nil, nil)
		for n := range 40 {
			if n != len(aside) {
				refused(t, "another length of aside", row.suite, key, nonce, make([]byte, n), b)
			}
		}
	}
}

// TestRandomBytes: no sealed bytes, of any length, and no panic.
func TestRandomBytes(t *testing.T) {
	r := rand.New(rand.NewSource(16))
	for _, row := range rows() {
		for range 1000 {
			refused(t, "random bytes", row.suite, random(r, row.key), randomNonce(r), random(r, r.Intn(40)), random(r, r.Intn(80)))
		}
	}
}

// TestOtherSuites: what one suite sealed no other one opens, also where the keys have one length.
func TestOtherSuites(t *testing.T) {
	r := rand.New(rand.NewSource(17))
	for _, one := range rows() {
		for _, other := range rows() {
			key, nonce, aside, text := random(r, 32), randomNonce(r), random(r, 9), random(r, 30)
			b := sealed(t, one.suite, key[:one.key], nonce, aside, text)
			if one == other {
				opens(t, other.suite, key[:other.key], nonce, aside, b, text)
			} else {
				refused(t, "another suite", other.suite, key[:other.key], nonce, aside, b)
			}
		}
	}
}

// keyLengths are lengths of keys, those that are right among them.
func keyLengths() []int {
	out := []int{128, 256 + 16, 256 + 32, 65536 + 16, 65536 + 32}
	for n := range 70 {
		out = append(out, n)
	}
	return out
}

// TestKeysOfOtherLengths: their error comes ahead of what is wrong with what is sealed; spare room makes no key longer.
func TestKeysOfOtherLengths(t *testing.T) {
	text := make([]byte, 40)
	for _, row := range rows() {
		whole := sealed(t, row.suite, make([]byte, row.key), [12]byte{}, nil, text)
		for _, n := range keyLengths() {
			if n == row.key {
				continue
			}
			key := make([]byte, n, n+64)
			if b, e := suite.Seal(row.suite, key, [12]byte{}, nil, text); len(b) != 0 || e != api.ErrSuiteKey {
				t.Errorf("suite %x: Seal by %d bytes: %x, %v", row.suite, n, b, e)
			}
			for _, b := range [][]byte{nil, whole[:15], text, whole} {
				fails(t, "another length of the key", api.ErrSuiteKey, row.suite, key, [12]byte{}, nil, b)
			}
		}
		if b, e := suite.Seal(row.suite, nil, [12]byte{}, nil, nil); len(b) != 0 || e != api.ErrSuiteKey {
			t.Errorf("suite %x: Seal by nothing: %x, %v", row.suite, b, e)
		}
		fails(t, "no key", api.ErrSuiteKey, row.suite, nil, [12]byte{}, nil, nil)
	}
}

// TestNoSuchSuite: every other number, whatever the key.
func TestNoSuchSuite(t *testing.T) {
	text := make([]byte, 40)
	keys := [][]byte{nil, make([]byte, 15), make([]byte, 16), make([]byte, 32)}
	for n := range 1 << 16 {
		s := api.Suite(n)
		if s == api.SuiteAES128 || s == api.SuiteAES256 || s == api.SuiteChaCha {
			continue
		}
		for _, key := range keys {
			if b, e := suite.Seal(s, key, [12]byte{}, nil, text); len(b) != 0 || e != api.ErrSuiteNone {
				t.Fatalf("suite %x: Seal by %d bytes: %x, %v", n, len(key), b, e)
			}
			fails(t, "no such suite", api.ErrSuiteNone, s, key, [12]byte{}, nil, text)
			fails(t, "no such suite, and too short", api.ErrSuiteNone, s, key, [12]byte{}, nil, nil)
		}
	}
}

// spoil writes into all memory of a list, to see that nobody else has it.
func spoil(b []byte) {
	b = b[:cap(b)]
	for i := range b {
		b[i] ^= 0xff
	}
}

// roomy is a list with spare room that is no nought, and all of its memory.
func roomy(r *rand.Rand, n int) (list, all []byte) {
	all = random(r, n+48)
	return all[:n], all
}

func TestNothingIsShared(t *testing.T) {
	r := rand.New(rand.NewSource(18))
	for _, row := range rows() {
		for _, length := range []int{0, 1, 16, 45} {
			key, allKey := roomy(r, row.key)
			aside, allAside := roomy(r, 19)
			text, allText := roomy(r, length)
			nonce := randomNonce(r)
			all := [][]byte{allKey, allAside, allText}
			before := bytes.Join(all, nil)
			unchanged := func(what string) {
				t.Helper()
				if !bytes.Equal(bytes.Join(all, nil), before) {
					t.Fatalf("suite %x, %d bytes: %s changed what was given, or its spare room", row.suite, length, what)
				}
			}
			one := sealed(t, row.suite, key, nonce, aside, text)
			want := bytes.Clone(one)
			unchanged("Seal")
			two := sealed(t, row.suite, key, nonce, aside, text)
			spoil(one)
			unchanged("writing into Seal's answer")
			if !bytes.Equal(two, want) {
				t.Fatalf("suite %x, %d bytes: two seals share memory", row.suite, length)
			}
			b, allSealed := roomy(r, len(want))
			copy(b, want)
			all = append(all, allSealed)
			before = bytes.Join(all, nil)
			opened, e := suite.Open(row.suite, key, nonce, aside, b)
			if e != api.OK || !bytes.Equal(opened, text) {
				t.Fatalf("suite %x, %d bytes: %x, %v", row.suite, length, opened, e)
			}
			unchanged("Open")
			spoil(opened)
			unchanged("writing into Open's answer")
			opens(t, row.suite, key, nonce, aside, b, text)
			b[len(b)-1] ^= 1
			before = bytes.Join(all, nil)
			refused(t, "a bit turned", row.suite, key, nonce, aside, b)
			fails(t, "a short key", api.ErrSuiteKey, row.suite, key[1:], nonce, aside, b)
			unchanged("an Open that is refused")
		}
	}
}

// TestOneListForAll: a list may be key, aside and text at once.
func TestOneListForAll(t *testing.T) {
	r := rand.New(rand.NewSource(19))
	for _, row := range rows() {
		one, nonce := random(r, row.key), randomNonce(r)
		before := bytes.Clone(one)
		b := sealed(t, row.suite, one, nonce, one, one)
		if !bytes.Equal(b, below(t, row.suite, before, nonce, bytes.Clone(before), bytes.Clone(before))) {
			t.Errorf("suite %x: another seal", row.suite)
		}
		opens(t, row.suite, one, nonce, one, b, before)
	}
}

// TestCallsKeepNothing: answers hang on the arguments alone, also of calls at once by all suites.
func TestCallsKeepNothing(t *testing.T) {
	r := rand.New(rand.NewSource(20))
	nonce, aside, text := randomNonce(r), random(r, 9), random(r, 33)
	var all sync.WaitGroup
	for _, row := range append(rows(), rows()...) {
		key := random(r, row.key)
		want := below(t, row.suite, key, nonce, aside, text)
		all.Go(func() {
			for range 20 {
				suite.Seal(row.suite, key[1:], nonce, aside, text)
				suite.Open(row.suite, key, nonce, text, want)
				suite.Seal(7, key, nonce, aside, text)
				if b, e := suite.Seal(row.suite, key, nonce, aside, text); e != api.OK || !bytes.Equal(b, want) {
					t.Error("another seal")
				}
				if b, e := suite.Open(row.suite, key, nonce, aside, want); e != api.OK || !bytes.Equal(b, text) {
					t.Error("another text")
				}
			}
		})
	}
	all.Wait()
}
