package gcm_test

import (
	"bytes"
	stdaes "crypto/aes"
	"crypto/cipher"
	"encoding/hex"
	"math/rand"
	"sync"
	"testing"

	"drawbridge/api"
	"drawbridge/gcm"
)

// lengths are those that a key may have.
var lengths = []int{16, 32}

func random(r *rand.Rand, n int) []byte {
	b := make([]byte, n)
	r.Read(b)
	return b
}

func randomBlock(r *rand.Rand) [16]byte { return [16]byte(random(r, 16)) }

func randomNonce(r *rand.Rand) [12]byte { return [12]byte(random(r, 12)) }

func unhex(t *testing.T, s string) []byte {
	t.Helper()
	b, err := hex.DecodeString(s)
	if err != nil {
		t.Fatal(err)
	}
	return b
}

func blockOf(t *testing.T, s string) [16]byte {
	t.Helper()
	return [16]byte(unhex(t, s))
}

// library is the library's own lock.
func library(t *testing.T, key []byte) cipher.AEAD {
	t.Helper()
	block, err := stdaes.NewCipher(key)
	if err != nil {
		t.Fatal(err)
	}
	lock, err := cipher.NewGCM(block)
	if err != nil {
		t.Fatal(err)
	}
	return lock
}

// sealed is what Seal makes, which must be no error.
func sealed(t *testing.T, key []byte, nonce [12]byte, aside, text []byte) []byte {
	t.Helper()
	b, e := gcm.Seal(key, nonce, aside, text)
	if e != api.OK {
		t.Fatalf("Seal of %d bytes by a key of %d: %v", len(text), len(key), e)
	}
	return b
}

// opens: Open answers the text.
func opens(t *testing.T, key []byte, nonce [12]byte, aside, b, text []byte) {
	t.Helper()
	got, e := gcm.Open(key, nonce, aside, b)
	if e != api.OK || !bytes.Equal(got, text) {
		t.Fatalf("key %x, nonce %x, aside %x, sealed %x: %x, %v, want %x", key, nonce, aside, b, got, e, text)
	}
}

// refused: Open answers its error, and nothing else.
func refused(t *testing.T, why string, key []byte, nonce [12]byte, aside, b []byte) {
	t.Helper()
	if got, e := gcm.Open(key, nonce, aside, b); len(got) != 0 || e != api.ErrGcmOpen {
		t.Fatalf("%s: key %x, nonce %x, aside %x, sealed %x: %x, %v", why, key, nonce, aside, b, got, e)
	}
}

const (
	longText  = "d9313225f88406e5a55909c5aff5269a86a7a9531534f7da2e4c303d8a318a721c3c0c95956809532fcf0e2449a6b525b16aedf5aa0de657ba637b391aafd255"
	shortText = "d9313225f88406e5a55909c5aff5269a86a7a9531534f7da2e4c303d8a318a721c3c0c95956809532fcf0e2449a6b525b16aedf5aa0de657ba637b39"
	toldAside = "feedfacedeadbeeffeedfacedeadbeefabaddad2"
	toldNonce = "cafebabefacedbaddecaf888"
	noNonce   = "000000000000000000000000"
	key16     = "feffe9928665731c6d6a8f9467308308"
	key32     = "feffe9928665731c6d6a8f9467308308feffe9928665731c6d6a8f9467308308"
	zero16    = "00000000000000000000000000000000"
)

func TestToldSeals(t *testing.T) {
	for _, c := range []struct{ key, nonce, aside, text, want string }{
		{zero16, noNonce, "", "", "58e2fccefa7e3061367f1d57a4e7455a"},
		{zero16, noNonce, "", zero16, "0388dace60b6a392f328c2b971b2fe78ab6e47d42cec13bdf53a67b21257bddf"},
		{key16, toldNonce, "", longText, "42831ec2217774244b7221b784d0d49ce3aa212f2c02a4e035c17e2329aca12e21d514b25466931c7d8f6a5aac84aa051ba30b396a0aac973d58e091473f59854d5c2af327cd64a62cf35abd2ba6fab4"},
		{key16, toldNonce, toldAside, shortText, "42831ec2217774244b7221b784d0d49ce3aa212f2c02a4e035c17e2329aca12e21d514b25466931c7d8f6a5aac84aa051ba30b396a0aac973d58e0915bc94fbc3221a5db94fae95ae7121a47"},
		{zero16 + zero16, noNonce, "", "", "530f8afbc74536b9a963b4f1c4cb738b"},
		{zero16 + zero16, noNonce, "", zero16, "cea7403d4d606b6e074ec5d3baf39d18d0d1c8a799996bf0265b98b5d48ab919"},
		{key32, toldNonce, "", longText, "522dc1f099567d07f47f37a32a84427d643a8cdcbfe5c0c97598a2bd2555d1aa8cb08e48590dbb3da7b08b1056828838c5f61e6393ba7a0abcc9f662898015adb094dac5d93471bdec1a502270e3cc6c"},
		{key32, toldNonce, toldAside, shortText, "522dc1f099567d07f47f37a32a84427d643a8cdcbfe5c0c97598a2bd2555d1aa8cb08e48590dbb3da7b08b1056828838c5f61e6393ba7a0abcc9f66276fc6ece0f4e1768cddf8853bb2d551b"},
	} {
		key, nonce := unhex(t, c.key), [12]byte(unhex(t, c.nonce))
		got := sealed(t, key, nonce, unhex(t, c.aside), unhex(t, c.text))
		if hex.EncodeToString(got) != c.want {
			t.Errorf("key %s, aside %s, text %s: %x, want %s", c.key, c.aside, c.text, got, c.want)
		}
		opens(t, key, nonce, unhex(t, c.aside), unhex(t, c.want), unhex(t, c.text))
	}
}

// TestSealsOfAnyLengths: by the library's own lock, and there and back.
func TestSealsOfAnyLengths(t *testing.T) {
	r := rand.New(rand.NewSource(11))
	for _, n := range lengths {
		for text := range 70 {
			for _, aside := range []int{0, 1, 15, 16, 17, 32, 33, r.Intn(200)} {
				key, nonce, a, b := random(r, n), randomNonce(r), random(r, aside), random(r, text)
				got, want := sealed(t, key, nonce, a, b), library(t, key).Seal(nil, nonce[:], b, a)
				if !bytes.Equal(got, want) {
					t.Fatalf("key %x, nonce %x, aside %x, text %x: %x, want %x", key, nonce, a, b, got, want)
				}
				opens(t, key, nonce, a, got, b)
			}
		}
	}
}

func TestLongSeals(t *testing.T) {
	r := rand.New(rand.NewSource(12))
	for _, n := range lengths {
		for _, text := range []int{16384, 16384 + 1, 1<<20 + 7} {
			key, nonce, a, b := random(r, n), randomNonce(r), random(r, 1<<16+5), random(r, text)
			got := sealed(t, key, nonce, a, b)
			if !bytes.Equal(got, library(t, key).Seal(nil, nonce[:], b, a)) {
				t.Fatalf("%d bytes of key, %d of text: another seal", n, text)
			}
			if back, e := gcm.Open(key, nonce, a, got); e != api.OK || !bytes.Equal(back, b) {
				t.Fatalf("%d bytes of key, %d of text: there and back is something else, %v", n, text, e)
			}
		}
	}
}

// TestSealsOfNothing: no text, no aside, whether nil or empty.
func TestSealsOfNothing(t *testing.T) {
	key := make([]byte, 16)
	for _, none := range [][]byte{nil, {}} {
		b := sealed(t, key, [12]byte{}, none, none)
		if hex.EncodeToString(b) != "58e2fccefa7e3061367f1d57a4e7455a" {
			t.Errorf("a seal of nothing: %x", b)
		}
		opens(t, key, [12]byte{}, none, b, nil)
	}
}

func TestKeysOfOtherLengths(t *testing.T) {
	short, whole := make([]byte, 15), make([]byte, 40)
	for _, n := range []int{0, 1, 8, 15, 17, 24, 31, 33, 48, 64, 256 + 16, 65536 + 32} {
		key := make([]byte, n)
		if b, e := gcm.Seal(key, [12]byte{}, nil, whole); len(b) != 0 || e != api.ErrArg {
			t.Errorf("Seal by %d bytes: %x, %v", n, b, e)
		}
		// The key's error comes ahead of what is wrong with what is sealed.
		for _, b := range [][]byte{nil, short, whole} {
			if text, e := gcm.Open(key, [12]byte{}, nil, b); len(text) != 0 || e != api.ErrArg {
				t.Errorf("Open of %d bytes by %d: %x, %v", len(b), n, text, e)
			}
		}
	}
	if b, e := gcm.Seal(nil, [12]byte{}, nil, nil); len(b) != 0 || e != api.ErrArg {
		t.Errorf("Seal by nothing: %x, %v", b, e)
	}
	if b, e := gcm.Seal(make([]byte, 15, 16), [12]byte{}, nil, nil); len(b) != 0 || e != api.ErrArg {
		t.Errorf("Seal by 15 bytes with spare room: %x, %v", b, e)
	}
}

func TestTooShort(t *testing.T) {
	for _, n := range lengths {
		key := make([]byte, n)
		tag := sealed(t, key, [12]byte{}, nil, nil)
		for length := range 16 {
			refused(t, "noughts", key, [12]byte{}, nil, make([]byte, length))
			refused(t, "a tag's beginning", key, [12]byte{}, nil, tag[:length])
			refused(t, "a tag's end", key, [12]byte{}, nil, tag[16-length:])
		}
		refused(t, "nil", key, [12]byte{}, nil, nil)
		opens(t, key, [12]byte{}, nil, tag, nil)
	}
}

// TestEachBitTurned: of the key, the nonce, the aside, the locked text and the tag.
func TestEachBitTurned(t *testing.T) {
	r := rand.New(rand.NewSource(13))
	for _, n := range lengths {
		for _, text := range []int{0, 1, 16, 37} {
			key, nonce, aside := random(r, n), randomNonce(r), random(r, 21)
			b := sealed(t, key, nonce, aside, random(r, text))
			for _, part := range []struct {
				name  string
				bytes []byte
			}{{"key", key}, {"nonce", nonce[:]}, {"aside", aside}, {"sealed", b}} {
				for bit := range 8 * len(part.bytes) {
					part.bytes[bit/8] ^= 1 << (bit % 8)
					refused(t, "a bit turned of "+part.name, key, nonce, aside, b)
					part.bytes[bit/8] ^= 1 << (bit % 8)
				}
			}
			if _, e := gcm.Open(key, nonce, aside, b); e != api.OK {
				t.Fatalf("all turned back: %v", e)
			}
		}
	}
}

// TestTwoBytesTurned: two turns that a sum of bytes would not see.
func TestTwoBytesTurned(t *testing.T) {
	r := rand.New(rand.NewSource(14))
	key, nonce := random(r, 16), randomNonce(r)
	b := sealed(t, key, nonce, nil, random(r, 20))
	for i := range b {
		for j := range i {
			bad := bytes.Clone(b)
			bad[i] ^= 0x5a
			bad[j] ^= 0x5a
			refused(t, "two turned", key, nonce, nil, bad)
		}
	}
}

func TestOtherLengths(t *testing.T) {
	r := rand.New(rand.NewSource(15))
	key, nonce, aside := random(r, 32), randomNonce(r), make([]byte, 16)
	b := sealed(t, key, nonce, aside, make([]byte, 40))
	for n := range b {
		refused(t, "cut off at the end", key, nonce, aside, b[:n])
		refused(t, "cut off at the beginning", key, nonce, aside, b[n+1:])
	}
	for n := 1; n < 40; n++ {
		more := make([]byte, n)
		refused(t, "noughts behind it", key, nonce, aside, append(bytes.Clone(b), more...))
		refused(t, "noughts ahead of it", key, nonce, aside, append(more, b...))
	}
	// Noughts at the end of aside are not the same as the filling up.
	for n := range 40 {
		if n != len(aside) {
			refused(t, "another length of aside", key, nonce, make([]byte, n), b)
		}
	}
}

// TestAsideIsNoText: what stands aside may not be moved into the text, nor the other way round.
func TestAsideIsNoText(t *testing.T) {
	r := rand.New(rand.NewSource(16))
	key, nonce, aside := random(r, 16), randomNonce(r), random(r, 32)
	b := sealed(t, key, nonce, aside, random(r, 16))
	moved := append(bytes.Clone(aside[16:]), b...)
	refused(t, "aside moved into the text", key, nonce, aside[:16], moved)
	longer := append(bytes.Clone(aside), b[:16]...)
	refused(t, "the text moved aside", key, nonce, longer, b[16:])
}

// TestOpenedWasSealed: whatever bytes have their tag are opened, and sealed again they are the same; with no other tag are they.
func TestOpenedWasSealed(t *testing.T) {
	r := rand.New(rand.NewSource(17))
	for _, n := range lengths {
		for length := range 50 {
			key, nonce, aside, locked := random(r, n), randomNonce(r), random(r, r.Intn(40)), random(r, length)
			lock := library(t, key)
			// A lock of the locked text is its text, since the same bytes are XORed, and locked anew it tells the tag.
			text := lock.Seal(nil, nonce[:], locked, aside)[:length]
			b := lock.Seal(nil, nonce[:], text, aside)
			if !bytes.Equal(b[:length], locked) {
				t.Fatal("the test's own text is not the one of what is locked")
			}
			opens(t, key, nonce, aside, b, text)
			if again := sealed(t, key, nonce, aside, text); !bytes.Equal(again, b) {
				t.Fatalf("opened was %x, sealed again is %x", b, again)
			}
			for place := length; place < len(b); place++ {
				bad := bytes.Clone(b)
				bad[place] += byte(1 + r.Intn(255))
				refused(t, "another tag", key, nonce, aside, bad)
			}
		}
	}
}

// TestJustOneTag: of all values of a tag's byte just one is opened.
func TestJustOneTag(t *testing.T) {
	r := rand.New(rand.NewSource(18))
	key, nonce, text := random(r, 16), randomNonce(r), random(r, 5)
	b := sealed(t, key, nonce, nil, text)
	for place := range b {
		bad := bytes.Clone(b)
		for value := range 256 {
			bad[place] = byte(value)
			if bytes.Equal(bad, b) {
				opens(t, key, nonce, nil, bad, text)
			} else {
				refused(t, "another byte", key, nonce, nil, bad)
			}
		}
	}
}

// TestRandomBytes: no sealed bytes, of any length, and no panic.
func TestRandomBytes(t *testing.T) {
	r := rand.New(rand.NewSource(19))
	for range 2000 {
		refused(t, "random bytes", random(r, lengths[r.Intn(2)]), randomNonce(r), random(r, r.Intn(40)), random(r, r.Intn(80)))
	}
}

// spoil writes into all memory of a list, to see that nobody else has it.
func spoil(b []byte) {
	b = b[:cap(b)]
	for i := range b {
		b[i] ^= 0xff
	}
}

// roomy is a list with spare room that is no nought, and all of its memory.
func roomy(r *rand.Rand, n int) (list, all []byte) {
	all = random(r, n+48)
	return all[:n], all
}

func TestNothingIsShared(t *testing.T) {
	r := rand.New(rand.NewSource(20))
	for _, n := range lengths {
		for _, length := range []int{0, 1, 16, 45} {
			key, allKey := roomy(r, n)
			aside, allAside := roomy(r, 19)
			text, allText := roomy(r, length)
			nonce := randomNonce(r)
			all := [][]byte{allKey, allAside, allText}
			before := bytes.Join(all, nil)
			unchanged := func(what string) {
				t.Helper()
				if !bytes.Equal(bytes.Join(all, nil), before) {
					t.Fatalf("%d bytes: %s changed what was given, or its spare room", length, what)
				}
			}
			one := sealed(t, key, nonce, aside, text)
			want := bytes.Clone(one)
			unchanged("Seal")
			two := sealed(t, key, nonce, aside, text)
			spoil(one)
			unchanged("writing into Seal's answer")
			if !bytes.Equal(two, want) {
				t.Fatalf("%d bytes: two seals share memory", length)
			}
			b, allSealed := roomy(r, len(want))
			copy(b, want)
			all = append(all, allSealed)
			before = bytes.Join(all, nil)
			opened, e := gcm.Open(key, nonce, aside, b)
			if e != api.OK || !bytes.Equal(opened, text) {
				t.Fatalf("%d bytes: %x, %v", length, opened, e)
			}
			unchanged("Open")
			spoil(opened)
			unchanged("writing into Open's answer")
			opens(t, key, nonce, aside, b, text)
			b[len(b)-1] ^= 1
			before = bytes.Join(all, nil)
			refused(t, "a bit turned", key, nonce, aside, b)
			unchanged("an Open that is refused")
			gcm.Hash([16]byte{1}, aside, text)
			unchanged("Hash")
		}
	}
}

// TestCallsKeepNothing: answers hang on the arguments alone, also of calls at once.
func TestCallsKeepNothing(t *testing.T) {
	r := rand.New(rand.NewSource(21))
	key, nonce, aside, text := random(r, 16), randomNonce(r), random(r, 9), random(r, 33)
	want := sealed(t, key, nonce, aside, text)
	other, bad := random(r, 32), make([]byte, 20)
	var all sync.WaitGroup
	for range 8 {
		all.Go(func() {
			for range 20 {
				gcm.Seal(other, nonce, text, aside)
				gcm.Open(other, nonce, aside, bad)
				gcm.Seal(bad, nonce, nil, nil)
				if b, e := gcm.Seal(key, nonce, aside, text); e != api.OK || !bytes.Equal(b, want) {
					t.Error("another seal")
				}
				if b, e := gcm.Open(key, nonce, aside, want); e != api.OK || !bytes.Equal(b, text) {
					t.Error("another text")
				}
			}
		})
	}
	all.Wait()
}
