package aes_test

import (
	"bytes"
	stdaes "crypto/aes"
	"crypto/cipher"
	"encoding/binary"
	"encoding/hex"
	"math/rand"
	"sync"
	"testing"

	"drawbridge/aes"
	"drawbridge/api"
)

// lengths are those that a key may have.
var lengths = []int{16, 32}

func random(r *rand.Rand, n int) []byte {
	b := make([]byte, n)
	r.Read(b)
	return b
}

func randomBlock(r *rand.Rand) [16]byte { return [16]byte(random(r, 16)) }

func unhex(t *testing.T, s string) []byte {
	t.Helper()
	b, err := hex.DecodeString(s)
	if err != nil {
		t.Fatal(err)
	}
	return b
}

// ready is a key that must be one.
func ready(t *testing.T, key []byte) *aes.Key {
	t.Helper()
	k, e := aes.New(key)
	if k == nil || e != api.OK {
		t.Fatalf("New of %d bytes: %v, %v", len(key), k, e)
	}
	return k
}

// library is the library's own cipher.
func library(t *testing.T, key []byte) cipher.Block {
	t.Helper()
	c, err := stdaes.NewCipher(key)
	if err != nil {
		t.Fatal(err)
	}
	return c
}

func right(c cipher.Block, b [16]byte) [16]byte {
	var out [16]byte
	c.Encrypt(out[:], b[:])
	return out
}

// rightStream is Stream by the library's blocks, as the document tells it.
func rightStream(c cipher.Block, at [16]byte, b []byte) []byte {
	out := bytes.Clone(b)
	begin := binary.BigEndian.Uint32(at[12:])
	for i := range out {
		binary.BigEndian.PutUint32(at[12:], begin+uint32(i/16))
		pad := right(c, at)
		out[i] ^= pad[i%16]
	}
	return out
}

func TestToldBlocks(t *testing.T) {
	for _, c := range []struct{ key, block, want string }{
		{"000102030405060708090a0b0c0d0e0f", "00112233445566778899aabbccddeeff", "69c4e0d86a7b0430d8cdb78070b4c55a"},
		{"000102030405060708090a0b0c0d0e0f101112131415161718191a1b1c1d1e1f", "00112233445566778899aabbccddeeff", "8ea2b7ca516745bfeafc49904b496089"},
		{"2b7e151628aed2a6abf7158809cf4f3c", "3243f6a8885a308d313198a2e0370734", "3925841d02dc09fbdc118597196a0b32"},
		{"2b7e151628aed2a6abf7158809cf4f3c", "6bc1bee22e409f96e93d7e117393172a", "3ad77bb40d7a3660a89ecaf32466ef97"},
		{"603deb1015ca71be2b73aef0857d77811f352c073b6108d72d9810a30914dff4", "6bc1bee22e409f96e93d7e117393172a", "f3eed1bdb5d2a03c064b5a7e3db181f8"},
		{"00000000000000000000000000000000", "00000000000000000000000000000000", "66e94bd4ef8a2c3b884cfa59ca342b2e"},
		{"0000000000000000000000000000000000000000000000000000000000000000", "00000000000000000000000000000000", "dc95c078a2408989ad48a21492842087"},
	} {
		got := ready(t, unhex(t, c.key)).Encrypt([16]byte(unhex(t, c.block)))
		if hex.EncodeToString(got[:]) != c.want {
			t.Errorf("key %s, block %s: %x, want %s", c.key, c.block, got, c.want)
		}
	}
}

func TestToldStreams(t *testing.T) {
	text := "6bc1bee22e409f96e93d7e117393172aae2d8a571e03ac9c9eb76fac45af8e5130c81c46a35ce411e5fbc1191a0a52eff69f2445df4f9b17ad2b417be66c3710"
	at := [16]byte(unhex(t, "f0f1f2f3f4f5f6f7f8f9fafbfcfdfeff"))
	for _, c := range []struct{ key, want string }{
		{"2b7e151628aed2a6abf7158809cf4f3c", "874d6191b620e3261bef6864990db6ce9806f66b7970fdff8617187bb9fffdff5ae4df3edbd5d35e5b4f09020db03eab1e031dda2fbe03d1792170a0f3009cee"},
		{"603deb1015ca71be2b73aef0857d77811f352c073b6108d72d9810a30914dff4", "601ec313775789a5b7a7f504bbf3d228f443e3ca4d62b59aca84e990cacaf5c52b0930daa23de94ce87017ba2d84988ddfc9c58db67aada613c2dd08457941a6"},
	} {
		if got := ready(t, unhex(t, c.key)).Stream(at, unhex(t, text)); hex.EncodeToString(got) != c.want {
			t.Errorf("key %s: %x, want %s", c.key, got, c.want)
		}
	}
}

func TestKeysOfOtherLengths(t *testing.T) {
	for n := range 300 {
		if n == 16 || n == 32 {
			continue
		}
		if k, e := aes.New(make([]byte, n)); k != nil || e != api.ErrArg {
			t.Errorf("New of %d bytes: %v, %v", n, k, e)
		}
	}
	if k, e := aes.New(nil); k != nil || e != api.ErrArg {
		t.Errorf("New of nothing: %v, %v", k, e)
	}
	for _, n := range []int{256 + 16, 65536 + 32, 1<<20 + 16} {
		if k, e := aes.New(make([]byte, n)); k != nil || e != api.ErrArg {
			t.Errorf("New of %d bytes: %v, %v", n, k, e)
		}
	}
	if k, e := aes.New(make([]byte, 15, 16)); k != nil || e != api.ErrArg {
		t.Errorf("New of 15 bytes with spare room: %v, %v", k, e)
	}
}

func TestBlocksOfAnyKey(t *testing.T) {
	r := rand.New(rand.NewSource(1))
	for _, n := range lengths {
		for range 400 {
			key := random(r, n)
			k, c := ready(t, key), library(t, key)
			for range 4 {
				b := randomBlock(r)
				if got, want := k.Encrypt(b), right(c, b); got != want {
					t.Fatalf("key %x, block %x: %x, want %x", key, b, got, want)
				}
			}
		}
	}
}

// TestBlocksOfOneByte: a key or a block of one byte alone takes each byte to its box, at each place.
func TestBlocksOfOneByte(t *testing.T) {
	for _, n := range lengths {
		zero := make([]byte, n)
		k, c := ready(t, zero), library(t, zero)
		for value := range 256 {
			for place := range 16 {
				var b [16]byte
				b[place] = byte(value)
				if got, want := k.Encrypt(b), right(c, b); got != want {
					t.Fatalf("%d bytes of key, block %x: %x, want %x", n, b, got, want)
				}
			}
			key := bytes.Repeat([]byte{byte(value)}, n)
			if got, want := ready(t, key).Encrypt([16]byte{}), right(library(t, key), [16]byte{}); got != want {
				t.Fatalf("key %x: %x, want %x", key, got, want)
			}
		}
	}
}

func TestStreamsOfAnyLength(t *testing.T) {
	r := rand.New(rand.NewSource(2))
	for _, n := range lengths {
		key := random(r, n)
		k, c := ready(t, key), library(t, key)
		for length := range 100 {
			at, b := randomBlock(r), random(r, length)
			got := k.Stream(at, b)
			if want := rightStream(c, at, b); !bytes.Equal(got, want) {
				t.Fatalf("key %x, at %x, %d bytes: %x, want %x", key, at, length, got, want)
			}
			if !bytes.Equal(k.Stream(at, got), b) {
				t.Fatalf("key %x, at %x, %d bytes: there and back is something else", key, at, length)
			}
		}
	}
}

func TestStreamOfNothing(t *testing.T) {
	k := ready(t, make([]byte, 16))
	if len(k.Stream([16]byte{}, nil)) != 0 || len(k.Stream([16]byte{15: 255}, []byte{})) != 0 {
		t.Error("a stream of nothing has bytes")
	}
}

func TestLongStream(t *testing.T) {
	r := rand.New(rand.NewSource(3))
	for _, n := range lengths {
		key, at, b := random(r, n), randomBlock(r), random(r, 1<<20+7)
		copy(at[12:], []byte{0, 0, 0xff, 0xfe})
		want := make([]byte, len(b))
		cipher.NewCTR(library(t, key), at[:]).XORKeyStream(want, b)
		k := ready(t, key)
		got := k.Stream(at, b)
		if !bytes.Equal(got, want) {
			t.Errorf("%d bytes of key: a long stream is something else", n)
		}
		if !bytes.Equal(k.Stream(at, got), b) {
			t.Errorf("%d bytes of key: there and back is something else", n)
		}
	}
}

// TestCounts: what is counted are the last four bytes; from the last number it goes on with 0, and the bytes ahead of them stay.
func TestCounts(t *testing.T) {
	r := rand.New(rand.NewSource(4))
	for _, n := range lengths {
		key := random(r, n)
		k, c := ready(t, key), library(t, key)
		for _, begin := range []uint32{0, 1, 0xfe, 0xff, 0x100, 0xfffe, 0xffff, 0x10000, 0xfffffe, 0xffffff, 0x1000000, 0x7fffffff, 0x80000000, 0xff00ff, 0xffff00ff, 0xfffffffd, 0xfffffffe, 0xffffffff} {
			for _, ahead := range []byte{0, 0xff, 7} {
				at := [16]byte(bytes.Repeat([]byte{ahead}, 16))
				binary.BigEndian.PutUint32(at[12:], begin)
				b := random(r, 70)
				if got, want := k.Stream(at, b), rightStream(c, at, b); !bytes.Equal(got, want) {
					t.Errorf("at %x: %x, want %x", at, got, want)
				}
			}
		}
	}
}

// TestStreamIsOfBlocks: a stream of noughts is Encrypt of what is counted, one block behind the other.
func TestStreamIsOfBlocks(t *testing.T) {
	k := ready(t, unhex(t, "603deb1015ca71be2b73aef0857d77811f352c073b6108d72d9810a30914dff4"))
	got := k.Stream([16]byte{0: 9, 11: 255, 12: 255, 13: 255, 14: 255, 15: 254}, make([]byte, 48))
	var want []byte
	for _, at := range [][16]byte{{0: 9, 11: 255, 12: 255, 13: 255, 14: 255, 15: 254}, {0: 9, 11: 255, 12: 255, 13: 255, 14: 255, 15: 255}, {0: 9, 11: 255}} {
		pad := k.Encrypt(at)
		want = append(want, pad[:]...)
	}
	if !bytes.Equal(got, want) {
		t.Errorf("%x, want %x", got, want)
	}
}

// TestOneToOne: each block can be told from what it became, so no two became the same.
func TestOneToOne(t *testing.T) {
	r := rand.New(rand.NewSource(5))
	for _, n := range lengths {
		key := random(r, n)
		k, c := ready(t, key), library(t, key)
		seen := map[[16]byte][16]byte{}
		try := func(b [16]byte) {
			got := k.Encrypt(b)
			var back [16]byte
			c.Decrypt(back[:], got[:])
			if back != b {
				t.Fatalf("key %x, block %x: %x goes back to %x", key, b, got, back)
			}
			if other, is := seen[got]; is && other != b {
				t.Fatalf("key %x: %x and %x both become %x", key, b, other, got)
			}
			seen[got] = b
		}
		base := randomBlock(r)
		try(base)
		for bit := range 128 {
			b := base
			b[bit/8] ^= 1 << (bit % 8)
			try(b)
		}
		for range 2000 {
			try(randomBlock(r))
		}
	}
}

// spoil writes into all memory of a list, to see that nobody else has it.
func spoil(b []byte) {
	b = b[:cap(b)]
	for i := range b {
		b[i] ^= 0xff
	}
}

func TestKeyIsNotKept(t *testing.T) {
	for _, n := range lengths {
		all := make([]byte, n+8)
		for i := range all {
			all[i] = byte(i)
		}
		before := bytes.Clone(all)
		k := ready(t, all[:n:n+8])
		if !bytes.Equal(all, before) {
			t.Errorf("%d bytes: New changed its key, or its spare room", n)
		}
		want := k.Encrypt([16]byte{1})
		if want != right(library(t, before[:n]), [16]byte{1}) {
			t.Errorf("%d bytes: another block", n)
		}
		spoil(all)
		if k.Encrypt([16]byte{1}) != want {
			t.Errorf("%d bytes: New kept its key", n)
		}
	}
}

func TestStreamsShareNothing(t *testing.T) {
	k := ready(t, make([]byte, 32))
	all := []byte("a text that is longer than a block, and spare room behind it")
	before := bytes.Clone(all)
	b := all[:40]
	one := k.Stream([16]byte{1}, b)
	want := bytes.Clone(one)
	if !bytes.Equal(all, before) {
		t.Error("Stream changed what it was given, or its spare room")
	}
	two := k.Stream([16]byte{1}, b)
	spoil(one)
	if !bytes.Equal(all, before) {
		t.Error("Stream answers memory that it was given")
	}
	if !bytes.Equal(two, want) {
		t.Error("two answers share memory")
	}
	if !bytes.Equal(k.Stream([16]byte{1}, b), want) {
		t.Error("a later answer is another one")
	}
}

// TestCallsChangeNothing: a key answers as at first, whatever was asked of it, and of other keys, in between.
func TestCallsChangeNothing(t *testing.T) {
	r := rand.New(rand.NewSource(6))
	key := random(r, 16)
	k, twin := ready(t, key), ready(t, key)
	at, b := randomBlock(r), random(r, 33)
	block, stream := k.Encrypt(at), k.Stream(at, b)
	for range 20 {
		k.Encrypt(randomBlock(r))
		k.Stream(randomBlock(r), random(r, 50))
		other := ready(t, random(r, 32))
		other.Encrypt(at)
		aes.New(random(r, 24))
	}
	if k.Encrypt(at) != block || !bytes.Equal(k.Stream(at, b), stream) {
		t.Error("a later answer is another one")
	}
	if twin.Encrypt(at) != block || !bytes.Equal(twin.Stream(at, b), stream) {
		t.Error("two keys of the same bytes answer otherwise")
	}
}

// TestAtOnce: a key may be asked from several sides at once, since asking changes nothing.
func TestAtOnce(t *testing.T) {
	k := ready(t, make([]byte, 16))
	b := make([]byte, 100)
	want, block := k.Stream([16]byte{}, b), k.Encrypt([16]byte{})
	var all sync.WaitGroup
	for range 8 {
		all.Go(func() {
			for range 50 {
				if !bytes.Equal(k.Stream([16]byte{}, b), want) || k.Encrypt([16]byte{}) != block {
					t.Error("another answer")
				}
			}
		})
	}
	all.Wait()
}
