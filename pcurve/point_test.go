package pcurve_test

import (
	"crypto/ecdh"
	"math/big"
	"math/rand"
	"slices"
	"testing"

	"drawbridge/api"
	"drawbridge/field"
	"drawbridge/pcurve"
)

// zero is Zero.
func zero() api.Point { return api.Point{Zero: true} }

// adds: Add is the model's.
func adds(t *testing.T, p, q spot) {
	t.Helper()
	if got, want := pcurve.Add(p.point(), q.point()), p.and(q).point(); got != want {
		t.Fatalf("Add(%v, %v): %v, want %v", p, q, spotOf(got), spotOf(want))
	}
}

// multiplies: Mult is the model's.
func multiplies(t *testing.T, k *big.Int, p spot) {
	t.Helper()
	if got, want := pcurve.Mult(num(k), p.point()), p.so(k).point(); got != want {
		t.Fatalf("Mult(%x, %v): %v, want %v", k, p, spotOf(got), spotOf(want))
	}
}

func TestPointExamples(t *testing.T) {
	b := pcurve.Base()
	if b != origin().point() || !pcurve.On(b) || pcurve.Mult(field.Modulus(api.FN256), b) != zero() {
		t.Error("Base")
	}
	if got := value(pcurve.Mult(api.Num{2}, b).X); got.Cmp(hex("7cf27b188d034f7e8a52380304b51ac3c08969e277f21b35a60b48fc47669978")) != 0 {
		t.Errorf("Base, twice: %x", got)
	}
}

// TestOnTheCurve: points that lie on it, their counterparts, and with each bit of X or Y turned none.
func TestOnTheCurve(t *testing.T) {
	r := rand.New(rand.NewSource(1))
	all := edgeSpots()
	for range 50 {
		all = append(all, drawnSpot(r))
	}
	for _, p := range all {
		if !p.lies() || !pcurve.On(p.point()) || !pcurve.On(p.minus().point()) {
			t.Fatalf("On(%v): false", p)
		}
		for i := range 256 {
			for _, q := range []api.Point{{Zero: p.zero, X: turned(num(p.x), i), Y: num(p.y)}, {Zero: p.zero, X: num(p.x), Y: turned(num(p.y), i)}} {
				if got, want := pcurve.On(q), spotOf(q).lies(); got != want {
					t.Fatalf("On(%v): %v, want %v", spotOf(q), got, want)
				}
			}
		}
	}
}

// turned is a number with one bit turned.
func turned(a api.Num, bit int) api.Num {
	a[bit/64] ^= 1 << (bit % 64)
	return a
}

// TestBesideTheCurve: points that lie beside it are Zero in every sum and every product.
func TestBesideTheCurve(t *testing.T) {
	for _, p := range beside() {
		if p.lies() || pcurve.On(p.point()) {
			t.Fatalf("On(%v): true", p)
		}
		for _, q := range slices.Concat(edgeSpots(), beside()) {
			if pcurve.Add(p.point(), q.point()) != zero() || pcurve.Add(q.point(), p.point()) != zero() {
				t.Fatalf("%v and %v together are not Zero", p, q)
			}
		}
		for _, k := range []api.Num{{}, {1}, {2}, {3}, num(order()), num(plus(order(), 1)), num(top())} {
			if pcurve.Mult(k, p.point()) != zero() {
				t.Fatalf("Mult(%x, %v) is not Zero", k, p)
			}
		}
	}
}

// TestSumsAtEdges: of the same point, of counterparts, with Zero, and of all others.
func TestSumsAtEdges(t *testing.T) {
	all := edgeSpots()
	for _, p := range all {
		adds(t, p, p)
		adds(t, p, p.minus())
		adds(t, p, nowhere())
		adds(t, nowhere(), p)
		for _, q := range all {
			adds(t, p, q)
		}
	}
}

func TestSumsOfDrawn(t *testing.T) {
	r := rand.New(rand.NewSource(2))
	for range 200 {
		p, q := drawnSpot(r), drawnSpot(r)
		adds(t, p, q)
		adds(t, p, p)
		adds(t, p, p.minus())
		adds(t, p.and(q), p)
		adds(t, p.and(q), q.minus())
	}
}

func TestProductsAtEdges(t *testing.T) {
	r := rand.New(rand.NewSource(3))
	for _, k := range edgeNums() {
		multiplies(t, k, nowhere())
		multiplies(t, k, origin())
		multiplies(t, k, drawnSpot(r))
	}
	for _, p := range edgeSpots() {
		for _, k := range []*big.Int{small(0), small(1), small(2), small(3), plus(order(), -1), order(), plus(order(), 1), top(), drawn(r)} {
			multiplies(t, k, p)
		}
	}
}

func TestProductsOfDrawn(t *testing.T) {
	r := rand.New(rand.NewSource(4))
	for range 60 {
		multiplies(t, drawn(r), drawnSpot(r))
	}
}

// TestProductsAreSums: Zero and the point, k times.
func TestProductsAreSums(t *testing.T) {
	for _, p := range []spot{origin(), from(small(0)), nowhere()} {
		sum := zero()
		for k := range uint64(100) {
			if got := pcurve.Mult(api.Num{k}, p.point()); got != sum {
				t.Fatalf("Mult(%d, %v): %v, want %v", k, p, spotOf(got), spotOf(sum))
			}
			sum = pcurve.Add(sum, p.point())
		}
	}
}

// TestPublicsAsTheLibrary: Base, d times, is the library's public key.
func TestPublicsAsTheLibrary(t *testing.T) {
	r := rand.New(rand.NewSource(5))
	secrets := []*big.Int{small(1), small(2), plus(order(), -1), power(255)}
	for range 200 {
		secrets = append(secrets, drawnRight(r))
	}
	for _, d := range secrets {
		key, err := ecdh.P256().NewPrivateKey(bytesOf(d))
		if err != nil {
			t.Fatal(err)
		}
		if got, want := pcurve.Encode(pcurve.Mult(num(d), pcurve.Base())), key.PublicKey().Bytes(); !slices.Equal(got, want) {
			t.Fatalf("Base, %x times: %x, want %x", d, got, want)
		}
	}
}

// someSpots are a few of the edges and a few that are drawn.
func someSpots(r *rand.Rand) []api.Point {
	var out []api.Point
	for _, p := range edgeSpots() {
		out = append(out, p.point())
	}
	for range 4 {
		p := drawnSpot(r)
		out = append(out, p.point(), p.minus().point())
	}
	return out
}

// TestSumsTurnedRoundAndGrouped: it is a group.
func TestSumsTurnedRoundAndGrouped(t *testing.T) {
	all := someSpots(rand.New(rand.NewSource(6)))
	for _, p := range all {
		for _, q := range all {
			sum := pcurve.Add(p, q)
			if !pcurve.On(sum) || sum != pcurve.Add(q, p) {
				t.Fatalf("%v and %v: not to be turned round", spotOf(p), spotOf(q))
			}
			for i := 0; i < len(all); i += 3 {
				if pcurve.Add(sum, all[i]) != pcurve.Add(p, pcurve.Add(q, all[i])) {
					t.Fatalf("%v, %v, %v: not to be grouped otherwise", spotOf(p), spotOf(q), spotOf(all[i]))
				}
			}
		}
	}
}

// TestProductsOfSums: of a sum of numbers, and of a sum of points, it is the sum of both's.
func TestProductsOfSums(t *testing.T) {
	r := rand.New(rand.NewSource(7))
	for _, p := range someSpots(r) {
		j, k, q := drawn(r), drawn(r), drawnSpot(r).point()
		j.SetBit(j, 255, 0)
		k.SetBit(k, 255, 0)
		ofJ, ofK := pcurve.Mult(num(j), p), pcurve.Mult(num(k), p)
		if pcurve.Mult(num(both(j, k)), p) != pcurve.Add(ofJ, ofK) {
			t.Fatalf("%x and %x times %v", j, k, spotOf(p))
		}
		if pcurve.Mult(num(j), pcurve.Add(p, q)) != pcurve.Add(ofJ, pcurve.Mult(num(j), q)) {
			t.Fatalf("%x times %v and %v", j, spotOf(p), spotOf(q))
		}
		if pcurve.Mult(num(j), ofK) != pcurve.Mult(num(k), ofJ) {
			t.Fatalf("%x times %x times %v", j, k, spotOf(p))
		}
	}
}

// TestTheOrder: it brings each point to Zero, one less to its counterpart, and numbers count by what they leave.
func TestTheOrder(t *testing.T) {
	n := order()
	for _, p := range someSpots(rand.New(rand.NewSource(8))) {
		if pcurve.Mult(num(n), p) != zero() || pcurve.Mult(num(plus(n, 1)), p) != p {
			t.Fatalf("%v, N times", spotOf(p))
		}
		if pcurve.Mult(num(plus(n, -1)), p) != spotOf(p).minus().point() {
			t.Fatalf("%v, N - 1 times", spotOf(p))
		}
		if pcurve.Mult(num(top()), p) != pcurve.Mult(num(left(top(), n)), p) {
			t.Fatalf("%v, 2^256 - 1 times", spotOf(p))
		}
	}
}

// TestPointsAnyhow: no digits that a point may have bring a panic, and all is as the model says.
func TestPointsAnyhow(t *testing.T) {
	r := rand.New(rand.NewSource(9))
	for range 2000 {
		p := api.Point{Zero: r.Intn(2) == 0, X: anyNum(r), Y: anyNum(r)}
		q := api.Point{Zero: r.Intn(2) == 0, X: anyNum(r), Y: anyNum(r)}
		if pcurve.On(p) != spotOf(p).lies() {
			t.Fatalf("On(%v): %v", spotOf(p), pcurve.On(p))
		}
		if got := pcurve.Add(p, q); got != zero() && (!pcurve.On(p) || !pcurve.On(q)) {
			t.Fatalf("Add(%v, %v): %v", spotOf(p), spotOf(q), spotOf(got))
		}
		if got := pcurve.Mult(p.X, q); got != zero() && !pcurve.On(q) {
			t.Fatalf("Mult(%x, %v): %v", p.X, spotOf(q), spotOf(got))
		}
	}
}

// anyNum is any number, often one of few digits.
func anyNum(r *rand.Rand) api.Num {
	var a api.Num
	for i := range a {
		switch r.Intn(4) {
		case 0:
			a[i] = r.Uint64()
		case 1:
			a[i] = ^uint64(0)
		}
	}
	return a
}
