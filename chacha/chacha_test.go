package chacha_test

import (
	"bytes"
	"encoding/hex"
	"math/rand"
	"strconv"
	"strings"
	"sync"
	"testing"

	"drawbridge/api"
	"drawbridge/chacha"
)

// rightSeal is a seal told straight from the document.
func rightSeal(key [32]byte, nonce [12]byte, aside, text []byte) []byte {
	locked := rightStream(key, 1, nonce, text)
	block := rightBlock(key, 0, nonce)
	all := append(bytes.Clone(aside), make([]byte, (16-len(aside)%16)%16)...)
	all = append(all, locked...)
	all = append(all, make([]byte, (16-len(locked)%16)%16)...)
	for _, n := range []int{len(aside), len(locked)} {
		all = append(all, byte(n), byte(n>>8), byte(n>>16), byte(n>>24), 0, 0, 0, 0)
	}
	tag := rightPoly([32]byte(block[:32]), all)
	return append(locked, tag[:]...)
}

// opens: Open answers the text.
func opens(t *testing.T, key [32]byte, nonce [12]byte, aside, b, text []byte) {
	t.Helper()
	got, e := chacha.Open(key, nonce, aside, b)
	if e != api.OK || !bytes.Equal(got, text) {
		t.Fatalf("key %x, nonce %x, aside %x, sealed %x: %x, %v, want %x", key, nonce, aside, b, got, e, text)
	}
}

// refused: Open answers its error, and nothing else.
func refused(t *testing.T, why string, key [32]byte, nonce [12]byte, aside, b []byte) {
	t.Helper()
	if got, e := chacha.Open(key, nonce, aside, b); len(got) != 0 || e != api.ErrChachaOpen {
		t.Fatalf("%s: key %x, nonce %x, aside %x, sealed %x: %x, %v", why, key, nonce, aside, b, got, e)
	}
}

func TestError(t *testing.T) {
	if api.ErrChachaOpen != 91 {
		t.Error(int(api.ErrChachaOpen))
	}
}

const (
	sunscreen = "Ladies and Gentlemen of the class of '99: If I could offer you only one tip for the future, sunscreen would be it."
	toldSeal  = "d31a8d34648e60db7b86afbc53ef7ec2a4aded51296e08fea9e2b5a736ee62d63dbea45e8ca9671282fafb69da92728b1a71de0a9e060b2905d6a5b67ecd3b3692ddbd7f2d778b8c9803aee328091b58fab324e4fad675945585808b4831d7bc3ff4def08e4b7a9de576d26586cec64b6116" + "1ae10b594f09e26a7e902ecbd0600691"
	drafts    = "64a0861575861af460f062c79be643bd5e805cfd345cf389f108670ac76c8cb24c6cfc18755d43eea09ee94e382d26b0bdb7b73c321b0100d4f03b7f355894cf332f830e710b97ce98c8a84abd0b948114ad176e008d33bd60f982b1ff37c8559797a06ef4f0ef61c186324e2b3506383606907b6a7c02b0f9f6157b53c867e4b9166c767b804d46a59b5216cde7a4e99040c5a40433225ee282a1b0a06c523eaf4534d7f83fa1155b0047718cbc546a0d072b04b3564eea1b422273f548271a0bb2316053fa76991955ebd63159434ecebb4e466dae5a1073a6727627097a1049e617d91d361094fa68f0ff77987130305beaba2eda04df997b714d6c6f2c29a6ad5cb4022b02709b" + "eead9d67890cbb22392336fea1851f38"
)

// Seals that RFC 8439 tells.
func TestToldSeals(t *testing.T) {
	key, nonce, aside := spanKey(0x80), [12]byte(unhex(t, "070000004041424344454647")), unhex(t, "50515253c0c1c2c3c4c5c6c7")
	if got := chacha.Seal(key, nonce, aside, []byte(sunscreen)); hex.EncodeToString(got) != toldSeal {
		t.Errorf("sealed is %x", got)
	}
	opens(t, key, nonce, aside, unhex(t, toldSeal), []byte(sunscreen))

	key = [32]byte(unhex(t, "1c9240a5eb55d38af333888604f6b5f0473917c1402b80099dca5cbc207075c0"))
	nonce, aside = [12]byte(unhex(t, "000000000102030405060708")), unhex(t, "f33388860000000000004e91")
	text, e := chacha.Open(key, nonce, aside, unhex(t, drafts))
	if e != api.OK || len(text) != 265 || !strings.HasPrefix(string(text), "Internet-Drafts are draft documents valid for a maximum of six months") {
		t.Errorf("opened is %q, %v", text, e)
	}
	if got := chacha.Seal(key, nonce, aside, text); hex.EncodeToString(got) != drafts {
		t.Errorf("sealed again is %x", got)
	}
}

// TestSealsOfAnyLengths: as the document tells them, and there and back.
func TestSealsOfAnyLengths(t *testing.T) {
	r := rand.New(rand.NewSource(14))
	for text := range 135 {
		for _, aside := range []int{0, 1, 15, 16, 17, 32, 33, r.Intn(300)} {
			key, nonce, a, b := randomKey(r), randomNonce(r), random(r, aside), random(r, text)
			got, want := chacha.Seal(key, nonce, a, b), rightSeal(key, nonce, a, b)
			if !bytes.Equal(got, want) {
				t.Fatalf("key %x, nonce %x, aside %x, text %x: %x, want %x", key, nonce, a, b, got, want)
			}
			opens(t, key, nonce, a, got, b)
		}
	}
}

// TestLibraryOpens: what Seal makes the library opens, and refuses what is turned.
func TestLibraryOpens(t *testing.T) {
	r := rand.New(rand.NewSource(15))
	for name := range 8 {
		l := newLock(t, strconv.Itoa(name))
		for text := range 70 {
			a, b := random(r, r.Intn(70)), random(r, text)
			sealed := chacha.Seal(l.key, l.next(), a, b)
			bad := bytes.Clone(sealed)
			bad[r.Intn(len(bad))] ^= 1 << r.Intn(8)
			refused(t, "a bit turned", l.key, l.next(), a, bad)
			l.refuses(t, a, bad)
			l.opens(t, a, sealed, b)
		}
		for _, n := range []int{16384, 16384 + 1, 1<<18 + 7} {
			a, b := random(r, 1<<16+5), random(r, n)
			l.opens(t, a, chacha.Seal(l.key, l.next(), a, b), b)
		}
	}
}

func TestLongSeals(t *testing.T) {
	r := rand.New(rand.NewSource(16))
	key, nonce, aside, text := randomKey(r), randomNonce(r), random(r, 1<<16+5), random(r, 1<<20+7)
	sealed := chacha.Seal(key, nonce, aside, text)
	got, e := chacha.Open(key, nonce, aside, sealed)
	if e != api.OK || len(sealed) != len(text)+16 || !bytes.Equal(got, text) {
		t.Errorf("there and back is something else, %v", e)
	}
}

// TestSealsOfNothing: no text, no aside, whether nil or empty.
func TestSealsOfNothing(t *testing.T) {
	want := rightSeal([32]byte{}, [12]byte{}, nil, nil)
	for _, none := range [][]byte{nil, {}} {
		b := chacha.Seal([32]byte{}, [12]byte{}, none, none)
		if len(b) != 16 || !bytes.Equal(b, want) {
			t.Errorf("a seal of nothing: %x, want %x", b, want)
		}
		opens(t, [32]byte{}, [12]byte{}, none, b, nil)
	}
}

func TestTooShort(t *testing.T) {
	r := rand.New(rand.NewSource(17))
	for _, key := range [][32]byte{{}, randomKey(r)} {
		tag := chacha.Seal(key, [12]byte{}, nil, nil)
		for length := range 16 {
			refused(t, "noughts", key, [12]byte{}, nil, make([]byte, length))
			refused(t, "a tag's beginning", key, [12]byte{}, nil, tag[:length])
			refused(t, "a tag's end", key, [12]byte{}, nil, tag[16-length:])
		}
		refused(t, "15 bytes with spare room", key, [12]byte{}, nil, tag[:15:16])
		refused(t, "nil", key, [12]byte{}, nil, nil)
		opens(t, key, [12]byte{}, nil, tag, nil)
	}
}

// TestEachBitTurned: of the key, the nonce, the aside, the locked text and the tag.
func TestEachBitTurned(t *testing.T) {
	r := rand.New(rand.NewSource(18))
	for _, length := range []int{0, 1, 16, 37, 64, 100} {
		key, nonce, aside := randomKey(r), randomNonce(r), random(r, 21)
		b := chacha.Seal(key, nonce, aside, random(r, length))
		for _, part := range []struct {
			name  string
			bytes []byte
		}{{"key", key[:]}, {"nonce", nonce[:]}, {"aside", aside}, {"sealed", b}} {
			for bit := range 8 * len(part.bytes) {
				part.bytes[bit/8] ^= 1 << (bit % 8)
				refused(t, "a bit turned of "+part.name, key, nonce, aside, b)
				part.bytes[bit/8] ^= 1 << (bit % 8)
			}
		}
		if _, e := chacha.Open(key, nonce, aside, b); e != api.OK {
			t.Fatalf("all turned back: %v", e)
		}
	}
}

// TestTwoBytesTurned: two turns that a sum of bytes would not see.
func TestTwoBytesTurned(t *testing.T) {
	r := rand.New(rand.NewSource(19))
	key, nonce := randomKey(r), randomNonce(r)
	b := chacha.Seal(key, nonce, nil, random(r, 20))
	for i := range b {
		for j := range i {
			bad := bytes.Clone(b)
			bad[i] ^= 0x5a
			bad[j] ^= 0x5a
			refused(t, "two turned", key, nonce, nil, bad)
		}
	}
}

func TestOtherLengths(t *testing.T) {
	r := rand.New(rand.NewSource(20))
	key, nonce, aside := randomKey(r), randomNonce(r), make([]byte, 16)
	b := chacha.Seal(key, nonce, aside, make([]byte, 40))
	for n := range b {
		refused(t, "cut off at the end", key, nonce, aside, b[:n])
		refused(t, "cut off at the beginning", key, nonce, aside, b[n+1:])
	}
	for n := 1; n < 40; n++ {
		more := make([]byte, n)
		refused(t, "noughts behind it", key, nonce, aside, append(bytes.Clone(b), more...))
		refused(t, "noughts ahead of it", key, nonce, aside, append(more, b...))
	}
	// Noughts at the end of aside are not the same as the filling up.
	for n := range 40 {
		if n != len(aside) {
			refused(t, "another length of aside", key, nonce, make([]byte, n), b)
		}
	}
}

// TestAsideIsNoText: what stands aside may not be moved into the text, nor the other way round.
func TestAsideIsNoText(t *testing.T) {
	r := rand.New(rand.NewSource(21))
	key, nonce, aside := randomKey(r), randomNonce(r), random(r, 32)
	b := chacha.Seal(key, nonce, aside, random(r, 16))
	moved := append(bytes.Clone(aside[16:]), b...)
	refused(t, "aside moved into the text", key, nonce, aside[:16], moved)
	longer := append(bytes.Clone(aside), b[:16]...)
	refused(t, "the text moved aside", key, nonce, longer, b[16:])
}

// TestOpenedWasSealed: whatever bytes have their tag are opened, and sealed again they are the same; with no other tag are they.
func TestOpenedWasSealed(t *testing.T) {
	r := rand.New(rand.NewSource(22))
	for length := range 140 {
		key, nonce, aside, locked := randomKey(r), randomNonce(r), random(r, r.Intn(40)), random(r, length)
		// The same bytes are XORed there and back, so that the stream of the locked text is its text.
		text := rightStream(key, 1, nonce, locked)
		b := rightSeal(key, nonce, aside, text)
		if !bytes.Equal(b[:length], locked) {
			t.Fatal("the test's own text is not the one of what is locked")
		}
		opens(t, key, nonce, aside, b, text)
		if again := chacha.Seal(key, nonce, aside, text); !bytes.Equal(again, b) {
			t.Fatalf("opened was %x, sealed again is %x", b, again)
		}
		for place := length; place < len(b); place++ {
			bad := bytes.Clone(b)
			bad[place] += byte(1 + r.Intn(255))
			refused(t, "another tag", key, nonce, aside, bad)
		}
	}
}

// TestJustOneTag: of all values of a byte just one is opened.
func TestJustOneTag(t *testing.T) {
	r := rand.New(rand.NewSource(23))
	key, nonce, text := randomKey(r), randomNonce(r), random(r, 5)
	b := chacha.Seal(key, nonce, nil, text)
	for place := range b {
		bad := bytes.Clone(b)
		for value := range 256 {
			bad[place] = byte(value)
			if bytes.Equal(bad, b) {
				opens(t, key, nonce, nil, bad, text)
			} else {
				refused(t, "another byte", key, nonce, nil, bad)
			}
		}
	}
}

// TestRandomBytes: no sealed bytes, of any length, and no panic.
func TestRandomBytes(t *testing.T) {
	r := rand.New(rand.NewSource(24))
	for range 3000 {
		refused(t, "random bytes", randomKey(r), randomNonce(r), random(r, r.Intn(40)), random(r, r.Intn(150)))
	}
}

// spoil writes into all memory of a list, to see that nobody else has it.
func spoil(b []byte) {
	b = b[:cap(b)]
	for i := range b {
		b[i] ^= 0xff
	}
}

// roomy is a list with spare room that is no nought, and all of its memory.
func roomy(r *rand.Rand, n int) (list, all []byte) {
	all = random(r, n+48)
	return all[:n], all
}

// watch tells whether something changed what was given.
func watch(t *testing.T, all ...[]byte) func(what string) {
	before := bytes.Join(all, nil)
	return func(what string) {
		t.Helper()
		if !bytes.Equal(bytes.Join(all, nil), before) {
			t.Fatalf("%s changed what was given, or its spare room", what)
		}
	}
}

func TestNothingIsShared(t *testing.T) {
	r := rand.New(rand.NewSource(25))
	for _, length := range []int{0, 1, 16, 45, 64, 130} {
		aside, allAside := roomy(r, 19)
		text, allText := roomy(r, length)
		key, nonce := randomKey(r), randomNonce(r)
		unchanged := watch(t, allAside, allText)
		chacha.Poly(key, text)
		unchanged("Poly")
		spoil(chacha.Stream(key, 7, nonce, text))
		unchanged("Stream, or writing into its answer,")
		one := chacha.Seal(key, nonce, aside, text)
		want := bytes.Clone(one)
		unchanged("Seal")
		two := chacha.Seal(key, nonce, aside, text)
		spoil(one)
		unchanged("writing into Seal's answer")
		if !bytes.Equal(two, want) {
			t.Fatalf("%d bytes: two seals share memory", length)
		}
		b, allSealed := roomy(r, len(want))
		copy(b, want)
		unchanged = watch(t, allAside, allText, allSealed)
		opened, e := chacha.Open(key, nonce, aside, b)
		if e != api.OK || !bytes.Equal(opened, text) {
			t.Fatalf("%d bytes: %x, %v", length, opened, e)
		}
		unchanged("Open")
		spoil(opened)
		unchanged("writing into Open's answer")
		opens(t, key, nonce, aside, b, text)
		b[len(b)-1] ^= 1
		unchanged = watch(t, allAside, allText, allSealed)
		refused(t, "a bit turned", key, nonce, aside, b)
		unchanged("an Open that is refused")
	}
}

// TestOneListForAll: aside and text may be the same memory.
func TestOneListForAll(t *testing.T) {
	r := rand.New(rand.NewSource(26))
	for n := range 70 {
		key, nonce, b := randomKey(r), randomNonce(r), random(r, n)
		sealed := chacha.Seal(key, nonce, b, b)
		if !bytes.Equal(sealed, rightSeal(key, nonce, b, b)) {
			t.Fatalf("%x beside itself: %x", b, sealed)
		}
		both := chacha.Seal(key, nonce, sealed[:n], b)
		copy(sealed, both)
		opens(t, key, nonce, sealed[:n], sealed, b)
	}
}

// TestCallsKeepNothing: answers hang on the arguments alone, also of calls at once.
func TestCallsKeepNothing(t *testing.T) {
	r := rand.New(rand.NewSource(27))
	key, other, nonce, aside, text := randomKey(r), randomKey(r), randomNonce(r), random(r, 9), random(r, 133)
	want, bad := chacha.Seal(key, nonce, aside, text), make([]byte, 20)
	var all sync.WaitGroup
	for range 8 {
		all.Go(func() {
			for range 50 {
				chacha.Seal(other, nonce, text, aside)
				chacha.Open(other, nonce, aside, bad)
				chacha.Poly(other, text)
				if b := chacha.Seal(key, nonce, aside, text); !bytes.Equal(b, want) {
					t.Error("another seal")
				}
				if b, e := chacha.Open(key, nonce, aside, want); e != api.OK || !bytes.Equal(b, text) {
					t.Error("another text")
				}
			}
		})
	}
	all.Wait()
}
