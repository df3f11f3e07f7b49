package chacha_test

import (
	"bytes"
	"encoding/hex"
	"math/rand"
	"testing"

	"drawbridge/chacha"
)

func random(r *rand.Rand, n int) []byte {
	b := make([]byte, n)
	r.Read(b)
	return b
}

func randomKey(r *rand.Rand) [32]byte { return [32]byte(random(r, 32)) }

func randomNonce(r *rand.Rand) [12]byte { return [12]byte(random(r, 12)) }

func unhex(t *testing.T, s string) []byte {
	t.Helper()
	b, err := hex.DecodeString(s)
	if err != nil {
		t.Fatal(err)
	}
	return b
}

// spanKey is a key of the bytes from one on.
func spanKey(from byte) [32]byte {
	var k [32]byte
	for i := range k {
		k[i] = from + byte(i)
	}
	return k
}

// number is that of bytes, the lowest first.
func number(b []byte) uint64 {
	var n uint64
	for i, v := range b {
		n |= uint64(v) << (8 * i)
	}
	return n
}

const whole = 1 << 32

// turned is a word turned left by n bits.
func turned(word uint64, n int) uint64 { return word<<n%whole | word>>(32-n) }

// rightBlock is a block told straight from the document, by words as numbers below 2^32.
func rightBlock(key [32]byte, count uint32, nonce [12]byte) [64]byte {
	words := []uint64{0x61707865, 0x3320646e, 0x79622d32, 0x6b206574}
	for i := 0; i < 32; i += 4 {
		words = append(words, number(key[i:i+4]))
	}
	words = append(words, uint64(count))
	for i := 0; i < 12; i += 4 {
		words = append(words, number(nonce[i:i+4]))
	}
	first := append([]uint64(nil), words...)
	for range 10 {
		for _, q := range [][4]int{{0, 4, 8, 12}, {1, 5, 9, 13}, {2, 6, 10, 14}, {3, 7, 11, 15}, {0, 5, 10, 15}, {1, 6, 11, 12}, {2, 7, 8, 13}, {3, 4, 9, 14}} {
			a, b, c, d := words[q[0]], words[q[1]], words[q[2]], words[q[3]]
			for _, turns := range [][2]int{{16, 12}, {8, 7}} {
				a = (a + b) % whole
				d = turned(d^a, turns[0])
				c = (c + d) % whole
				b = turned(b^c, turns[1])
			}
			words[q[0]], words[q[1]], words[q[2]], words[q[3]] = a, b, c, d
		}
	}
	var out [64]byte
	for i := range out {
		out[i] = byte((words[i/4] + first[i/4]) % whole >> (8 * (i % 4)))
	}
	return out
}

// Blocks that RFC 8439 tells.
func TestToldBlocks(t *testing.T) {
	var none [12]byte
	for _, c := range []struct {
		key   [32]byte
		count uint32
		nonce [12]byte
		want  string
	}{
		{[32]byte{}, 0, none, "76b8e0ada0f13d90405d6ae55386bd28bdd219b8a08ded1aa836efcc8b770dc7da41597c5157488d7724e03fb8d84a376a43b8f41518a11cc387b669b2ee6586"},
		{[32]byte{}, 1, none, "9f07e7be5551387a98ba977c732d080dcb0f29a048e3656912c6533e32ee7aed29b721769ce64e43d57133b074d839d531ed1f28510afb45ace10a1f4b794d6f"},
		{[32]byte{31: 1}, 1, none, "3aeb5224ecf849929b9d828db1ced4dd832025e8018b8160b82284f3c949aa5a8eca00bbb4a73bdad192b5c42f73f2fd4e273644c8b36125a64addeb006c13a0"},
		{[32]byte{}, 0, [12]byte{11: 2}, "c2c64d378cd536374ae204b9ef933fcd1a8b2288b3dfa49672ab765b54ee27c78a970e0e955c14f3a88e741b97c286f75f8fc299e8148362fa198a39531bed6d"},
		{spanKey(0), 1, [12]byte{3: 9, 7: 0x4a}, "10f1e7e4d13b5915500fdd1fa32071c4c7d1f4c733c068030422aa9ac3d46c4ed2826446079faa0914c2d705d98b02a2b5129cd1de164eb9cbd083e8a2503c4e"},
	} {
		if got := chacha.Block(c.key, c.count, c.nonce); hex.EncodeToString(got[:]) != c.want {
			t.Errorf("key %x, count %d, nonce %x: %x, want %s", c.key, c.count, c.nonce, got, c.want)
		}
	}
}

func TestBlocks(t *testing.T) {
	r := rand.New(rand.NewSource(1))
	for range 3000 {
		key, count, nonce := randomKey(r), r.Uint32(), randomNonce(r)
		if got, want := chacha.Block(key, count, nonce), rightBlock(key, count, nonce); got != want {
			t.Fatalf("key %x, count %d, nonce %x: %x, want %x", key, count, nonce, got, want)
		}
	}
	full := [32]byte(bytes.Repeat([]byte{255}, 32))
	for _, count := range []uint32{0, 1, 255, 256, 1 << 16, 1<<31 - 1, 1 << 31, 1<<32 - 1} {
		for _, nonce := range [][12]byte{{}, [12]byte(full[:12])} {
			if got, want := chacha.Block(full, count, nonce), rightBlock(full, count, nonce); got != want {
				t.Fatalf("count %d, nonce %x: %x, want %x", count, nonce, got, want)
			}
		}
	}
}

// TestEachBitOfABlock: a single bit of the key, the count or the nonce stands in its own place.
func TestEachBitOfABlock(t *testing.T) {
	seen := map[[64]byte]int{}
	for bit := range 8 * (32 + 4 + 12) {
		var key [32]byte
		var nonce [12]byte
		var count uint32
		mark := byte(1) << (bit % 8)
		if at := bit / 8; at < 32 {
			key[at] = mark
		} else if at < 36 {
			count = 1 << (bit - 256)
		} else {
			nonce[at-36] = mark
		}
		got := chacha.Block(key, count, nonce)
		if want := rightBlock(key, count, nonce); got != want {
			t.Fatalf("bit %d: %x, want %x", bit, got, want)
		}
		seen[got] = bit
	}
	if len(seen) != 8*48 {
		t.Errorf("%d blocks are unlike", len(seen))
	}
}

// rightStream is bytes XORed with the document's blocks, byte by byte.
func rightStream(key [32]byte, count uint32, nonce [12]byte, b []byte) []byte {
	var out []byte
	for i, v := range b {
		pad := rightBlock(key, uint32((uint64(count)+uint64(i/64))%whole), nonce)
		out = append(out, v^pad[i%64])
	}
	return out
}

func TestStreamsOfAnyLengths(t *testing.T) {
	r := rand.New(rand.NewSource(2))
	for n := range 270 {
		key, count, nonce, b := randomKey(r), r.Uint32(), randomNonce(r), random(r, n)
		got := chacha.Stream(key, count, nonce, b)
		if want := rightStream(key, count, nonce, b); !bytes.Equal(got, want) {
			t.Fatalf("key %x, count %d, nonce %x, %x: %x, want %x", key, count, nonce, b, got, want)
		}
		if back := chacha.Stream(key, count, nonce, got); !bytes.Equal(back, b) {
			t.Fatalf("there and back: %x, want %x", back, b)
		}
	}
}

// TestCountsGoRound: behind the last count comes 0, and the nonce stays as it is.
func TestCountsGoRound(t *testing.T) {
	r := rand.New(rand.NewSource(3))
	key, nonce, none := randomKey(r), randomNonce(r), make([]byte, 5*64)
	for _, count := range []uint32{0, 1, 254, 255, 256, 1<<16 - 2, 1<<24 - 2, 1<<31 - 2, 1<<32 - 5, 1<<32 - 4, 1<<32 - 2, 1<<32 - 1} {
		got := chacha.Stream(key, count, nonce, none)
		for i := range 5 {
			want := chacha.Block(key, count+uint32(i), nonce)
			if !bytes.Equal(got[64*i:64*i+64], want[:]) {
				t.Errorf("count %d, block %d: another one", count, i)
			}
		}
	}
}

func TestStreamOfNothing(t *testing.T) {
	for _, none := range [][]byte{nil, {}, make([]byte, 0, 64)} {
		if b := chacha.Stream([32]byte{}, 0, [12]byte{}, none); len(b) != 0 {
			t.Errorf("a stream of nothing: %x", b)
		}
	}
}

func TestLongStream(t *testing.T) {
	r := rand.New(rand.NewSource(4))
	key, nonce, b := randomKey(r), randomNonce(r), random(r, 1<<20+7)
	got := chacha.Stream(key, 1<<32-9, nonce, b)
	if len(got) != len(b) {
		t.Fatalf("%d bytes", len(got))
	}
	for from := 0; from < len(b); from += 64 {
		pad := rightBlock(key, uint32(1<<32-9)+uint32(from/64), nonce)
		for i := from; i < min(from+64, len(b)); i++ {
			if got[i] != b[i]^pad[i-from] {
				t.Fatalf("another byte at %d", i)
			}
		}
	}
}
