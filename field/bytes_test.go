package field_test

import (
	"bytes"
	"math/big"
	"math/rand"
	"slices"
	"testing"

	"drawbridge/api"
	"drawbridge/field"
)

// ofLow is the number whose bytes these are, the lowest first.
func ofLow(b []byte) *big.Int {
	high := slices.Clone(b)
	slices.Reverse(high)
	return new(big.Int).SetBytes(high)
}

// wideAgrees: Wide is the model's, of each field, and leaves the bytes and their spare room as they are.
func wideAgrees(t *testing.T, b []byte) {
	t.Helper()
	held := append(slices.Clone(b), 1, 2, 3, 4)
	all := slices.Clone(held)
	for _, f := range fields() {
		want := ofLow(b)
		want.Mod(want, modulus(f))
		if got := field.Wide(f, held[:len(b)]); got != num(want) {
			t.Fatalf("Wide of field %d of %d bytes %x: %x, want %x", f, len(b), b[:min(len(b), 80)], value(got), want)
		}
	}
	if !bytes.Equal(held, all) {
		t.Fatal("Wide changed what it was given")
	}
}

func TestWideOfNothing(t *testing.T) {
	for _, f := range fields() {
		if field.Wide(f, nil) != small(0) || field.Wide(f, []byte{}) != small(0) {
			t.Errorf("field %d: Wide of no bytes is not 0", f)
		}
	}
}

func TestWideOfEachLength(t *testing.T) {
	r := rand.New(rand.NewSource(7))
	for n := range 300 {
		b := make([]byte, n)
		wideAgrees(t, b)
		r.Read(b)
		wideAgrees(t, b)
		for i := range b {
			b[i] = 255
		}
		wideAgrees(t, b)
		clear(b)
		if n > 0 {
			b[n-1] = 1
			wideAgrees(t, b)
			b[0] |= 1
			wideAgrees(t, b)
		}
	}
}

func TestWideOfMuch(t *testing.T) {
	r := rand.New(rand.NewSource(8))
	for _, n := range []int{4095, 4096, 4097, 100001} {
		b := make([]byte, n)
		r.Read(b)
		wideAgrees(t, b)
	}
}

func TestWideOfMultiples(t *testing.T) {
	for _, f := range fields() {
		for _, k := range []uint{0, 1, 7, 8, 255, 256, 257, 800} {
			for _, d := range []int64{-1, 0, 1} {
				x := plus(new(big.Int).Lsh(modulus(f), k), d)
				b := x.Bytes()
				slices.Reverse(b)
				wideAgrees(t, b)
			}
		}
	}
}

// TestWideOfDrawnDigits: numbers of two whole blocks, whose digits are often the least or the greatest, or those of a multiple of the modulus.
func TestWideOfDrawnDigits(t *testing.T) {
	r := rand.New(rand.NewSource(10))
	for range 20000 {
		low, high := field.ToLE(drawn(r)), field.ToLE(drawn(r))
		wideAgrees(t, slices.Concat(low[:], high[:]))
	}
	for _, f := range fields() {
		for range 5000 {
			a := plus(new(big.Int).Mul(modulus(f), value(drawn(r))), int64(r.Intn(5)-2))
			b := a.Abs(a).Bytes()
			slices.Reverse(b)
			wideAgrees(t, b)
		}
	}
}

func TestBytesOfNumbers(t *testing.T) {
	r := rand.New(rand.NewSource(9))
	all := edges()
	for range 1000 {
		all = append(all, drawn(r))
	}
	for _, a := range all {
		var high [32]byte
		value(a).FillBytes(high[:])
		low := high
		slices.Reverse(low[:])
		if field.ToBE(a) != high || field.ToLE(a) != low {
			t.Fatalf("bytes of %x: %x, %x", value(a), field.ToBE(a), field.ToLE(a))
		}
		if field.FromBE(high) != a || field.FromLE(low) != a {
			t.Fatalf("number of %x: %x, %x", high, field.FromBE(high), field.FromLE(low))
		}
	}
}

func TestEachByteHasItsPlace(t *testing.T) {
	for i := range 32 {
		for v := range 256 {
			var b [32]byte
			b[i] = byte(v)
			low, high := field.FromLE(b), field.FromBE(b)
			if value(low).Cmp(times(power(uint(8*i)), int64(v))) != 0 || value(high).Cmp(times(power(uint(8*(31-i))), int64(v))) != 0 {
				t.Fatalf("byte %d, %d: %x, %x", i, v, value(low), value(high))
			}
			if field.ToLE(low) != b || field.ToBE(high) != b {
				t.Fatalf("byte %d, %d does not come back", i, v)
			}
		}
	}
}

func TestExamples(t *testing.T) {
	less := num(plus(power(255), -20))
	for _, x := range []struct{ got, want api.Num }{
		{field.Sub(api.F25519, small(0), small(1)), less},
		{field.Mul(api.F25519, less, less), small(1)},
		{field.Inv(api.F25519, small(2)), num(plus(power(254), -9))},
		{field.Wide(api.FL25519, bytes.Repeat([]byte{255}, 32)), num(new(big.Int).Mod(plus(power(256), -1), modulus(api.FL25519)))},
	} {
		if x.got != x.want {
			t.Errorf("%x, want %x", value(x.got), value(x.want))
		}
	}
	for _, x := range []struct {
		f    api.Field
		a    uint64
		root uint64
		ok   bool
	}{{api.F25519, 4, 2, true}, {api.F25519, 2, 0, false}, {api.FP256, 4, 2, true}, {api.FN256, 4, 0, false}} {
		if root, ok := field.Root(x.f, small(x.a)); root != small(x.root) || ok != x.ok {
			t.Errorf("root of %d in field %d: %x, %v", x.a, x.f, root, ok)
		}
	}
}
