package xdh_test

import (
	"bytes"
	"crypto/ecdh"
	"math/big"
	"math/rand"
	"sync"
	"testing"

	"drawbridge/xdh"
)

// agrees: Mult is the model's.
func agrees(t *testing.T, k, u [32]byte) {
	t.Helper()
	if got, want := xdh.Mult(k, u), model(k, u); got != want {
		t.Fatalf("Mult(%x, %x): %x, want %x", k, u, got, want)
	}
}

// nothing: Shared says that there is no secret, and tells none.
func nothing(t *testing.T, k, u [32]byte) {
	t.Helper()
	if s, is := xdh.Shared(k, u); is || s != [32]byte{} {
		t.Fatalf("Shared(%x, %x): %x, %v, want nothing", k, u, s, is)
	}
}

// shared is what Shared makes, which must be something.
func shared(t *testing.T, k, u [32]byte) [32]byte {
	t.Helper()
	s, is := xdh.Shared(k, u)
	if !is || s == [32]byte{} {
		t.Fatalf("Shared(%x, %x): %x, %v, want a secret", k, u, s, is)
	}
	return s
}

// TestToldProducts: those of RFC 7748.
func TestToldProducts(t *testing.T) {
	for _, c := range [][3]string{
		{"a546e36bf0527c9d3b16154b82465edd62144c0ac1fc5a18506a2244ba449ac4", "e6db6867583030db3594c1a424b15f7c726624ec26b3353b10a903a6d0ab1c4c", "c3da55379de9c6908e94ea4df28d084f32eccf03491c71f754b4075577a28552"},
		{"4b66e9d4d1b4673c5ad22691957d6af5c11b6421e0ea01d42ca4169e7918ba0d", "e5210f12786811d3f4b7959d0538ae2c31dbe7106fc03c3efc4cd549c715a493", "95cbde9476e8907d7aade45cb4b873f88b595a68799fa152e6f8f7647aac7957"},
	} {
		if got := xdh.Mult(unhex(t, c[0]), unhex(t, c[1])); got != unhex(t, c[2]) {
			t.Errorf("Mult(%s, %s): %x, want %s", c[0], c[1], got, c[2])
		}
	}
}

// TestToldRounds: RFC 7748's, in which each answer is the next secret, and the secret the next point.
func TestToldRounds(t *testing.T) {
	k, u := [32]byte{9}, [32]byte{9}
	for i := range 1000 {
		k, u = xdh.Mult(k, u), k
		if i == 0 && k != unhex(t, "422c8e7a6227d7bca1350b3e2bb7279f7897b87bb6854b783c60e80311ae3079") {
			t.Fatalf("one round: %x", k)
		}
	}
	if k != unhex(t, "684cf59ba83309552800ef566f2f4d3c1c3887c49360e3875f2eb94d99532c51") {
		t.Fatalf("a thousand rounds: %x", k)
	}
}

// TestToldSecrets: both sides of RFC 7748's.
func TestToldSecrets(t *testing.T) {
	a := unhex(t, "77076d0a7318a57d3c16c17251b26645df4c2f87ebc0992ab177fba51db92c2a")
	b := unhex(t, "5dab087e624a8a4b79e17f8b83800ee66f3bb1292618b6fd1c2f8b27ff88e0eb")
	aPublic := unhex(t, "8520f0098930a754748b7ddcb43ef75a0dbf3a0d26381af4eba4a98eaa9b4e6a")
	bPublic := unhex(t, "de9edb7d7b7dc1b4d35b61c2ece435373f8343c85b78674dadfc7e146f882b4f")
	if xdh.Public(a) != aPublic || xdh.Public(b) != bPublic {
		t.Errorf("public keys: %x, %x", xdh.Public(a), xdh.Public(b))
	}
	want := unhex(t, "4a5d9d5ba4ce2de1728e3bf480350f25e07e21c947d19e3376f09b3c1e161742")
	if s := shared(t, a, bPublic); s != want {
		t.Errorf("one side: %x", s)
	}
	if s := shared(t, b, aPublic); s != want {
		t.Errorf("the other side: %x", s)
	}
}

func TestProductsAtEdges(t *testing.T) {
	r := rand.New(rand.NewSource(13))
	secrets, points := edgeSecrets(), edgePoints()
	for _, u := range points {
		for _, k := range append(secrets[:4:4], drawn(r)) {
			agrees(t, k, u)
		}
	}
	for _, k := range secrets {
		for _, u := range append(points[:4:4], [32]byte{9}, drawn(r), drawn(r)) {
			agrees(t, k, u)
		}
	}
}

func TestProductsOfDrawn(t *testing.T) {
	r := rand.New(rand.NewSource(1))
	for range 500 {
		agrees(t, drawn(r), drawn(r))
	}
}

// TestPointsModuloThePrime: a number at or above the prime is the point of what it leaves.
func TestPointsModuloThePrime(t *testing.T) {
	r := rand.New(rand.NewSource(2))
	for n := range int64(19) {
		k, low, high := drawn(r), bytesOf(big.NewInt(n)), bytesOf(plus(prime(), n))
		if xdh.Mult(k, low) != xdh.Mult(k, high) {
			t.Errorf("secret %x: %d is not as the prime and %d", k, n, n)
		}
	}
}

// TestAsTheLibrary: the library's own secrets and public keys.
func TestAsTheLibrary(t *testing.T) {
	r := rand.New(rand.NewSource(3))
	points := edgePoints()
	for range 500 {
		points = append(points, drawn(r))
	}
	for i, u := range points {
		k := drawn(r)
		if all := edgeSecrets(); i < len(all) {
			k = all[i]
		}
		mine, err := ecdh.X25519().NewPrivateKey(k[:])
		if err != nil {
			t.Fatal(err)
		}
		if got := xdh.Public(k); !bytes.Equal(got[:], mine.PublicKey().Bytes()) {
			t.Fatalf("Public(%x): %x, want %x", k, got, mine.PublicKey().Bytes())
		}
		other, err := ecdh.X25519().NewPublicKey(u[:])
		if err != nil {
			t.Fatal(err)
		}
		want, err := mine.ECDH(other)
		if err != nil {
			nothing(t, k, u)
		} else if got := shared(t, k, u); !bytes.Equal(got[:], want) {
			t.Fatalf("Shared(%x, %x): %x, want %x", k, u, got, want)
		}
	}
}

// TestPublic: it is Mult of 9, and never nought, whatever the secret is.
func TestPublic(t *testing.T) {
	r := rand.New(rand.NewSource(4))
	secrets := edgeSecrets()
	for range 200 {
		secrets = append(secrets, drawn(r))
	}
	for _, k := range secrets {
		if got := xdh.Public(k); got != xdh.Mult(k, [32]byte{9}) || got == [32]byte{} {
			t.Fatalf("Public(%x): %x", k, got)
		}
	}
}

// TestSharedOfSmallOrders: there is no secret with them, nor with the same numbers and the highest bit.
func TestSharedOfSmallOrders(t *testing.T) {
	r := rand.New(rand.NewSource(5))
	for _, x := range smallOrders() {
		u := bytesOf(x)
		for _, k := range append(edgeSecrets(), drawn(r), drawn(r), drawn(r)) {
			nothing(t, k, u)
			nothing(t, k, flipped(u, 255))
			if xdh.Mult(k, u) != [32]byte{} {
				t.Fatalf("Mult(%x, %x) is not nought", k, u)
			}
		}
	}
}

// TestSharedIsMult: of all other points, those next to a small order's too, it is Mult and true.
func TestSharedIsMult(t *testing.T) {
	r := rand.New(rand.NewSource(6))
	for _, u := range edgePoints() {
		k := drawn(r)
		want := model(k, u)
		if s, is := xdh.Shared(k, u); s != want || is != (want != [32]byte{}) {
			t.Fatalf("Shared(%x, %x): %x, %v, want %x", k, u, s, is, want)
		}
	}
	for range 200 {
		k, u := drawn(r), drawn(r)
		if shared(t, k, u) != xdh.Mult(k, u) {
			t.Fatalf("Shared(%x, %x) is not Mult", k, u)
		}
	}
}

// TestBothHaveIt: whoever reckons the secret, it is the same; a third one has another.
func TestBothHaveIt(t *testing.T) {
	r := rand.New(rand.NewSource(7))
	secrets := edgeSecrets()
	for range 20 {
		secrets = append(secrets, drawn(r))
	}
	var publics [][32]byte
	for _, k := range secrets {
		publics = append(publics, xdh.Public(k))
	}
	for i, k := range secrets {
		for j, l := range secrets[:i+1] {
			if shared(t, k, publics[j]) != shared(t, l, publics[i]) {
				t.Fatalf("secrets %x, %x: both have not the same", k, l)
			}
		}
	}
	for range 50 {
		k, l, m := drawn(r), drawn(r), drawn(r)
		if shared(t, k, xdh.Public(l)) == shared(t, m, xdh.Public(l)) {
			t.Fatalf("secrets %x, %x have the same with %x", k, m, l)
		}
	}
}

// TestBitsOfSecrets: the five bits that are always the same count for nothing, each other one does.
func TestBitsOfSecrets(t *testing.T) {
	r := rand.New(rand.NewSource(8))
	fixed := map[int]bool{0: true, 1: true, 2: true, 254: true, 255: true}
	for range 4 {
		k, u := drawn(r), drawn(r)
		want := xdh.Mult(k, u)
		for i := range 256 {
			if got := xdh.Mult(flipped(k, i), u); (got == want) != fixed[i] {
				t.Fatalf("bit %d of the secret %x, point %x: %x, and %x", i, k, u, got, want)
			}
		}
	}
}

// TestBitsOfPoints: the highest bit counts for nothing, each other one does.
func TestBitsOfPoints(t *testing.T) {
	r := rand.New(rand.NewSource(9))
	for range 4 {
		k, u := drawn(r), drawn(r)
		want := xdh.Mult(k, u)
		for i := range 256 {
			if got := xdh.Mult(k, flipped(u, i)); (got == want) != (i == 255) {
				t.Fatalf("bit %d of the point %x, secret %x: %x, and %x", i, u, k, got, want)
			}
		}
	}
}

// TestFixedBitsTogether: all bits that count for nothing may be anything at once.
func TestFixedBitsTogether(t *testing.T) {
	r := rand.New(rand.NewSource(10))
	k, u := drawn(r), drawn(r)
	want := xdh.Mult(k, u)
	for v := range 64 {
		other, point := k, u
		for j, i := range []int{0, 1, 2, 254, 255} {
			if v>>j&1 == 1 {
				other = flipped(other, i)
			}
		}
		if v>>5 == 1 {
			point = flipped(point, 255)
		}
		if got := xdh.Mult(other, point); got != want {
			t.Fatalf("Mult(%x, %x): %x, want %x", other, point, got, want)
		}
	}
}

// TestGroupedOtherwise: of two secrets, either may come first, on the curve and beside it, and of points of a small order.
func TestGroupedOtherwise(t *testing.T) {
	r := rand.New(rand.NewSource(11))
	points := edgePoints()
	for range 200 {
		points = append(points, drawn(r))
	}
	for i, u := range points {
		k, l := drawn(r), drawn(r)
		if all := edgeSecrets(); i < len(all) {
			k = all[i]
		}
		if xdh.Mult(k, xdh.Mult(l, u)) != xdh.Mult(l, xdh.Mult(k, u)) {
			t.Fatalf("secrets %x, %x, point %x: grouped otherwise", k, l, u)
		}
	}
}

// TestSameAnswers: an answer hangs on the arguments alone, however many ask at once and whatever was asked before.
func TestSameAnswers(t *testing.T) {
	r := rand.New(rand.NewSource(12))
	k, u := drawn(r), drawn(r)
	product, public := model(k, u), model(k, [32]byte{9})
	var all sync.WaitGroup
	for n := range 8 {
		all.Go(func() {
			for i := range 10 {
				xdh.Mult([32]byte{byte(n)}, [32]byte{byte(i)})
				s, is := xdh.Shared(k, u)
				if xdh.Mult(k, u) != product || xdh.Public(k) != public || s != product || !is {
					t.Errorf("secret %x, point %x: another answer", k, u)
				}
			}
		})
	}
	all.Wait()
}
