package edsig_test

import (
	"bytes"
	"crypto/ed25519"
	"encoding/hex"
	"math/big"
	"math/rand"
	"slices"
	"sync"
	"testing"

	"drawbridge/edsig"
)

// unhex are bytes by their digits.
func unhex(t *testing.T, s string) []byte {
	t.Helper()
	b, err := hex.DecodeString(s)
	if err != nil {
		t.Fatal(err)
	}
	return b
}

// holds: Verify says what is wanted, and the model too.
func holds(t *testing.T, want bool, public [32]byte, text []byte, sig [64]byte) {
	t.Helper()
	if model := modelVerify(public, text, sig); model != want {
		t.Fatalf("the model of Verify(%x, %x, %x): %v, want %v", public, text, sig, model, want)
	}
	if got := edsig.Verify(public, text, sig); got != want {
		t.Fatalf("Verify(%x, %x, %x): %v, want %v", public, text, sig, got, want)
	}
}

// edgeSeeds are seeds of no bits, of all, and of one.
func edgeSeeds() [][32]byte {
	out := [][32]byte{{}, [32]byte(bytes.Repeat([]byte{255}, 32))}
	for _, i := range []int{0, 1, 2, 3, 127, 128, 253, 254, 255} {
		out = append(out, [32]byte(flipped(make([]byte, 32), i)))
	}
	return out
}

// TestToldSignatures: those of RFC 8032.
func TestToldSignatures(t *testing.T) {
	for _, c := range [][4]string{
		{"9d61b19deffd5a60ba844af492ec2cc44449c5697b326919703bac031cae7f60", "d75a980182b10ab7d54bfed3c964073a0ee172f3daa62325af021a68f707511a", "", "e5564300c360ac729086e2cc806e828a84877f1eb8e5d974d873e065224901555fb8821590a33bacc61e39701cf9b46bd25bf5f0595bbe24655141438e7a100b"},
		{"4ccd089b28ff96da9db6c346ec114e0f5b8a319f35aba624da8cf6ed4fb8a6fb", "3d4017c3e843895a92b70aa74d1b7ebc9c982ccf2ec4968cc0cd55f12af4660c", "72", "92a009a9f0d4cab8720e820b5f642540a2b27b5416503f8fb3762223ebdb69da085ac1e43e15996e458f3613d0f11d8c387b2eaeb4302aeeb00d291612bb0c00"},
		{"c5aa8df43f9f837bedb7442f31dcb7b166d38535076f094b85ce3a2e0b4458f7", "fc51cd8e6218a1a38da47ed00230f0580816ed13ba3303ac5deb911548908025", "af82", "6291d657deec24024827e69c3abe01a30ce548a284743a445e3680d7db5ac3ac18ff9b538d16f290ae67f760984dc6594a7c15e9716ed28dc027beceea1ec40a"},
		{"833fe62409237b9d62ec77587520911e9a759cec1d19755b7da901b96dca3d42", "ec172b93ad5e563bf4932c70e1245034c35467ef2efd4d64ebf819683467e2bf", "ddaf35a193617abacc417349ae20413112e6fa4e89a97ea20a9eeee64b55d39a2192992a274fc1a836ba3c23a3feebbd454d4423643ce80e2a9ac94fa54ca49f", "dc2a4459e7369633a52b1bf277839a00201009a3efbf3ecb69bea2186c26b58909351fc9ac90b3ecfdfbc7c66431e0303dca179c138ac17ad9bef1177331a704"},
	} {
		seed, public, text, sig := [32]byte(unhex(t, c[0])), [32]byte(unhex(t, c[1])), unhex(t, c[2]), [64]byte(unhex(t, c[3]))
		if got := edsig.Public(seed); got != public {
			t.Errorf("Public(%x): %x, want %x", seed, got, public)
		}
		if got := edsig.Sign(seed, text); got != sig {
			t.Errorf("Sign(%x, %x): %x, want %x", seed, text, got, sig)
		}
		holds(t, true, public, text, sig)
	}
}

func TestSignaturesAsTheModel(t *testing.T) {
	r := rand.New(rand.NewSource(1))
	seeds := edgeSeeds()
	for range 20 {
		seeds = append(seeds, drawn(r))
	}
	for i, seed := range seeds {
		text := drawnText(r, 5*i)
		if got, want := edsig.Public(seed), modelPublic(seed); got != want {
			t.Fatalf("Public(%x): %x, want %x", seed, got, want)
		}
		if got, want := edsig.Sign(seed, text), modelSign(seed, text); got != want {
			t.Fatalf("Sign(%x, %x): %x, want %x", seed, text, got, want)
		}
		holds(t, true, edsig.Public(seed), text, edsig.Sign(seed, text))
	}
}

// asTheLibrary: the library's own public key and signature, and both take them.
func asTheLibrary(t *testing.T, seed [32]byte, text []byte) {
	t.Helper()
	key := ed25519.NewKeyFromSeed(seed[:])
	public, sig := edsig.Public(seed), edsig.Sign(seed, text)
	if !bytes.Equal(public[:], key.Public().(ed25519.PublicKey)) {
		t.Fatalf("Public(%x): %x", seed, public)
	}
	if want := ed25519.Sign(key, text); !bytes.Equal(sig[:], want) {
		t.Fatalf("Sign(%x, %d bytes): %x, want %x", seed, len(text), sig, want)
	}
	if !edsig.Verify(public, text, sig) {
		t.Fatalf("Verify of what Sign(%x, %d bytes) made: false", seed, len(text))
	}
}

// TestItsOwn: of seeds and texts of every length about a block's, the library signs likewise, and Verify takes what Sign made.
func TestItsOwn(t *testing.T) {
	r := rand.New(rand.NewSource(2))
	for _, seed := range edgeSeeds() {
		asTheLibrary(t, seed, nil)
		asTheLibrary(t, seed, []byte{0})
	}
	for n := range 300 {
		asTheLibrary(t, drawn(r), drawnText(r, n))
	}
	for _, n := range []int{1023, 4096, 65536, 100001} {
		asTheLibrary(t, drawn(r), drawnText(r, n))
	}
}

// TestNoText: a nil text is as an empty one.
func TestNoText(t *testing.T) {
	seed := [32]byte{7}
	public, sig := edsig.Public(seed), edsig.Sign(seed, nil)
	if edsig.Sign(seed, []byte{}) != sig || !edsig.Verify(public, nil, sig) || !edsig.Verify(public, []byte{}, sig) {
		t.Error("a nil text and an empty one are unlike")
	}
	if edsig.Verify(public, []byte{0}, sig) {
		t.Error("a nought is as no text")
	}
}

// TestEachBitOfASeed: each makes another public key.
func TestEachBitOfASeed(t *testing.T) {
	seed := drawn(rand.New(rand.NewSource(3)))
	seen := map[[32]byte]int{edsig.Public(seed): -1}
	for i := range 256 {
		public := edsig.Public([32]byte(flipped(seed[:], i)))
		if j, is := seen[public]; is {
			t.Fatalf("seed %x: bits %d and %d make the same", seed, i, j)
		}
		seen[public] = i
	}
}

// TestTurnedBits: with any bit of the signature, the public key or the text turned nothing is taken.
func TestTurnedBits(t *testing.T) {
	r := rand.New(rand.NewSource(4))
	seed, text := drawn(r), drawnText(r, 40)
	public, sig := edsig.Public(seed), edsig.Sign(seed, text)
	for i := range 512 {
		if edsig.Verify(public, text, [64]byte(flipped(sig[:], i))) {
			t.Fatalf("seed %x, text %x: taken with bit %d of the signature turned", seed, text, i)
		}
	}
	for i := range 256 {
		if edsig.Verify([32]byte(flipped(public[:], i)), text, sig) {
			t.Fatalf("seed %x, text %x: taken with bit %d of the public key turned", seed, text, i)
		}
	}
	for i := range 320 {
		if edsig.Verify(public, flipped(text, i), sig) {
			t.Fatalf("seed %x, text %x: taken with bit %d of the text turned", seed, text, i)
		}
	}
}

// TestOthers: a signature is of one text and one seed.
func TestOthers(t *testing.T) {
	r := rand.New(rand.NewSource(5))
	for n := range 40 {
		seed, text := drawn(r), drawnText(r, n+1)
		public, sig := edsig.Public(seed), edsig.Sign(seed, text)
		for _, other := range [][]byte{nil, text[1:], text[:n], append(slices.Clone(text), 0), append([]byte{0}, text...)} {
			if edsig.Verify(public, other, sig) {
				t.Fatalf("a signature of %x is taken for %x", text, other)
			}
		}
		if edsig.Verify(edsig.Public(drawn(r)), text, sig) || edsig.Verify(public, text, edsig.Sign(drawn(r), text)) {
			t.Fatalf("a signature of %x by another seed is taken", text)
		}
		if edsig.Verify(public, text, both([32]byte(sig[32:]), [32]byte(sig[:32]))) {
			t.Fatalf("the halves of %x may be exchanged", sig)
		}
		if edsig.Verify(public, text, [64]byte{}) || edsig.Verify(public, text, [64]byte(drawnText(r, 64))) {
			t.Fatalf("anything is taken for a signature by %x", public)
		}
	}
}

// TestTheOrderMore: S may be told in one way alone.
func TestTheOrderMore(t *testing.T) {
	r := rand.New(rand.NewSource(6))
	for range 10 {
		seed, text := drawn(r), drawnText(r, 9)
		public, sig := edsig.Public(seed), edsig.Sign(seed, text)
		s := number(sig[32:])
		for s.Add(s, order()); s.BitLen() <= 256; s.Add(s, order()) {
			holds(t, false, public, text, both([32]byte(sig[:32]), bytesOf(s)))
		}
	}
}

// TestNumbersOfB: with the public key that changes nothing, R is B, S times, for any text: so each S is held against the model's multiple.
func TestNumbersOfB(t *testing.T) {
	all := []*big.Int{plus(order(), -2), plus(order(), -1), new(big.Int).Rsh(order(), 1)}
	for n := range int64(35) {
		all = append(all, small(n))
	}
	for _, e := range []uint{63, 64, 127, 128, 191, 192, 251, 252} {
		all = append(all, plus(power(e), -1), power(e))
	}
	public := nowhere().bytes()
	for _, s := range all {
		first := origin().so(s)
		holds(t, true, public, []byte("any"), both(first.bytes(), bytesOf(s)))
		holds(t, false, public, []byte("any"), both(first.and(origin()).bytes(), bytesOf(s)))
		if s.Sign() != 0 {
			holds(t, false, public, []byte("any"), both(first.minus().bytes(), bytesOf(s)))
		}
	}
	for n := range int64(5) {
		holds(t, false, public, nil, both(origin().so(small(n)).bytes(), bytesOf(plus(order(), n))))
	}
	holds(t, false, public, nil, both(origin().bytes(), bytesOf(plus(power(256), -1))))
}

// TestSmallOrders: points of a small order are points, as a public key and as R; what counts is the equation itself, not its multiple by 8.
func TestSmallOrders(t *testing.T) {
	points := smallOrders()
	taken := 0
	for i, a := range points {
		for j, first := range points {
			public, sig := a.bytes(), both(first.bytes(), [32]byte{})
			text := []byte{byte(i), byte(j)}
			want := modelVerify(public, text, sig)
			holds(t, want, public, text, sig)
			if want {
				taken++
			}
			if got := ed25519.Verify(public[:], text, sig[:]); got != want {
				t.Fatalf("the library's Verify(%x, %x, %x): %v, want %v", public, text, sig, got, want)
			}
		}
	}
	// Where the public key changes nothing, one R of the eight is right; so there must be both.
	if taken == 0 || taken == len(points)*len(points) {
		t.Fatalf("%d are taken", taken)
	}
}

// TestMixedOrders: with a point of a small order beside R or the public key a signature is taken just where it cancels out.
func TestMixedOrders(t *testing.T) {
	r := rand.New(rand.NewSource(7))
	seed := drawn(r)
	a, _ := secretOf(seed)
	points := smallOrders()
	taken, refused := 0, 0
	for n := range 64 {
		beside, more := points[n%8], points[n/8]
		public := origin().so(a).and(beside).bytes()
		once := number(drawnText(r, 31))
		first := origin().so(once).and(more).bytes()
		text := drawnText(r, 12)
		k := sum512(first[:], public[:], text)
		k.Mod(k, order())
		s := new(big.Int).Mul(k, a)
		s.Mod(s.Add(s, once), order())
		want := more.and(beside.so(k)).same(nowhere())
		holds(t, want, public, text, both(first, bytesOf(s)))
		if want {
			taken++
		} else {
			refused++
		}
	}
	if taken < 2 || refused < 2 {
		t.Fatalf("%d taken, %d refused", taken, refused)
	}
}

// TestBytesThatTellNone: where R or the public key is told in another way, or is no point, nothing is taken, even if the equation is met.
func TestBytesThatTellNone(t *testing.T) {
	// 1 and the prime's 1 more, with the bit of an odd x and without: by their rest all of them are the point that changes nothing.
	right := bytesOf(small(1))
	wrong := [][32]byte{bytesOf(plus(prime(), 1))}
	for _, b := range [][32]byte{right, wrong[0]} {
		wrong = append(wrong, [32]byte(flipped(b[:], 255)))
	}
	wrong = append(wrong, [32]byte{2})
	holds(t, true, right, nil, both(right, [32]byte{}))
	for _, b := range wrong {
		holds(t, false, b, nil, both(right, [32]byte{}))
		holds(t, false, right, nil, both(b, [32]byte{}))
		holds(t, false, b, nil, both(b, [32]byte{}))
	}
}

// TestSpareRoom: a text, what stands behind it, and what it is cut from, stay as they are.
func TestSpareRoom(t *testing.T) {
	r := rand.New(rand.NewSource(8))
	seed := drawn(r)
	for _, n := range []int{0, 1, 31, 32, 64, 96, 128, 200} {
		all := drawnText(r, n+300)
		held := slices.Clone(all)
		sig := edsig.Sign(seed, all[100:100+n])
		if !edsig.Verify(edsig.Public(seed), all[100:100+n], sig) || !bytes.Equal(all, held) {
			t.Fatalf("%d bytes: what was handed in is changed", n)
		}
		clear(all)
		if edsig.Sign(seed, held[100:100+n]) != sig {
			t.Fatalf("%d bytes: a text is kept", n)
		}
	}
}

// TestSameAnswers: an answer hangs on the arguments alone, however many ask at once and whatever was asked before.
func TestSameAnswers(t *testing.T) {
	seed, text := [32]byte{1, 2, 3}, []byte("a text")
	public, sig := modelPublic(seed), modelSign(seed, text)
	var all sync.WaitGroup
	for n := range 8 {
		all.Go(func() {
			for i := range 5 {
				other := edsig.Sign([32]byte{byte(n)}, []byte{byte(i)})
				if edsig.Verify(public, text, other) || !edsig.Verify(public, text, sig) {
					t.Errorf("another answer of Verify")
				}
				if edsig.Public(seed) != public || edsig.Sign(seed, text) != sig || !edsig.Point(public) {
					t.Errorf("another answer of the seed %x", seed)
				}
			}
		})
	}
	all.Wait()
}
