package field_test

import (
	"math/big"
	"math/rand"
	"testing"

	"drawbridge/api"
	"drawbridge/field"
)

// wantRoot is the even root by the model.
func wantRoot(f api.Field, a api.Num) (api.Num, bool) {
	m := modulus(f)
	x := new(big.Int).Mod(value(a), m)
	r := new(big.Int).ModSqrt(x, m)
	if r == nil {
		return api.Num{}, false
	}
	if r.Bit(0) == 1 {
		r.Sub(m, r)
	}
	return num(r), true
}

// rootAgrees: the program's root is the model's.
func rootAgrees(t *testing.T, f api.Field, a api.Num) {
	t.Helper()
	want, is := wantRoot(f, a)
	if got, ok := field.Root(f, a); got != want || ok != is {
		t.Fatalf("root of %x in field %d: %x, %v, want %x, %v", value(a), f, value(got), ok, value(want), is)
	}
}

func TestRootModel(t *testing.T) {
	r := rand.New(rand.NewSource(4))
	for _, f := range []api.Field{api.F25519, api.FP256} {
		for _, a := range edges() {
			rootAgrees(t, f, a)
		}
		for n := range uint64(200) {
			rootAgrees(t, f, small(n))
		}
		for range 300 {
			rootAgrees(t, f, drawn(r))
		}
	}
}

func TestEachSquareHasARoot(t *testing.T) {
	r := rand.New(rand.NewSource(5))
	for _, f := range []api.Field{api.F25519, api.FP256} {
		for range 300 {
			a := drawn(r)
			square := field.Mul(f, a, a)
			root, ok := field.Root(f, square)
			if !ok || root[0]&1 == 1 || !field.Right(f, root) || field.Mul(f, root, root) != square {
				t.Fatalf("field %d: root of the square of %x: %x, %v", f, a, root, ok)
			}
			if whole := field.Add(f, a, small(0)); root != whole && root != field.Neg(f, whole) {
				t.Fatalf("field %d: %x is no root of the square of %x", f, root, a)
			}
		}
	}
}

// TestMinusOneIsASquare: modulo 2^255 - 19 it is one, so that a number and -1 times it are both squares, or both none. Modulo the prime of P-256 it is none.
func TestMinusOneIsASquare(t *testing.T) {
	r := rand.New(rand.NewSource(6))
	for _, f := range []api.Field{api.F25519, api.FP256} {
		squares := 0
		for range 400 {
			a := drawn(r)
			_, ok := field.Root(f, a)
			if ok {
				squares++
			}
			if _, less := field.Root(f, field.Neg(f, a)); (less == ok) != (f == api.F25519) && field.Add(f, a, small(0)) != small(0) {
				t.Fatalf("field %d: %x is a square: %v, -1 times it: %v", f, a, ok, less)
			}
		}
		if squares < 100 || squares > 300 {
			t.Errorf("field %d: of 400 numbers %d are squares", f, squares)
		}
	}
}

func TestRootOfZero(t *testing.T) {
	for _, f := range []api.Field{api.F25519, api.FP256} {
		for _, zero := range []api.Num{small(0), num(modulus(f))} {
			if root, ok := field.Root(f, zero); root != small(0) || !ok {
				t.Errorf("field %d: root of 0 is %x, %v", f, root, ok)
			}
		}
	}
}

func TestNoRootsModuloOrders(t *testing.T) {
	for _, f := range []api.Field{api.FN256, api.FL25519} {
		for _, a := range append(edges(), small(4), small(9)) {
			if root, ok := field.Root(f, a); root != small(0) || ok {
				t.Errorf("field %d: root of %x is %x, %v", f, a, root, ok)
			}
		}
	}
}
