package field_test

import (
	"math"
	"math/big"
	"math/rand"
	"testing"

	"drawbridge/api"
	"drawbridge/field"
)

// hex is a number that is written so.
func hex(s string) *big.Int {
	x, ok := new(big.Int).SetString(s, 16)
	if !ok {
		panic(s)
	}
	return x
}

// power is 2^e.
func power(e uint) *big.Int { return new(big.Int).Lsh(big.NewInt(1), e) }

// plus is x and a small number.
func plus(x *big.Int, n int64) *big.Int { return new(big.Int).Add(x, big.NewInt(n)) }

// times is x, n times.
func times(x *big.Int, n int64) *big.Int { return new(big.Int).Mul(x, big.NewInt(n)) }

// fields are all four.
func fields() []api.Field {
	return []api.Field{api.F25519, api.FP256, api.FN256, api.FL25519}
}

// noFields are numbers of no field.
func noFields() []api.Field {
	return []api.Field{0, 5, 6, -1, -4, 255, 256, 257, math.MaxInt, math.MinInt, math.MinInt + 1}
}

// modulus is a field's, by the document's own words.
func modulus(f api.Field) *big.Int {
	switch f {
	case api.F25519:
		return plus(power(255), -19)
	case api.FP256:
		m := new(big.Int).Sub(power(256), power(224))
		m.Add(m, power(192))
		m.Add(m, power(96))
		return plus(m, -1)
	case api.FN256:
		return hex("ffffffff00000000ffffffffffffffffbce6faada7179e84f3b9cac2fc632551")
	}
	tail, _ := new(big.Int).SetString("27742317777372353535851937790883648493", 10)
	return tail.Add(tail, power(252))
}

// num is a number below 2^256 by its digits.
func num(x *big.Int) api.Num {
	if x.Sign() < 0 || x.BitLen() > 256 {
		panic("no number of 256 bits: " + x.String())
	}
	var a api.Num
	rest := new(big.Int).Set(x)
	for i := range a {
		a[i] = new(big.Int).And(rest, plus(power(64), -1)).Uint64()
		rest.Rsh(rest, 64)
	}
	return a
}

// value is what digits say.
func value(a api.Num) *big.Int {
	x := new(big.Int)
	for i := range a {
		x.Lsh(x, 64)
		x.Or(x, new(big.Int).SetUint64(a[3-i]))
	}
	return x
}

// small is a small number.
func small(n uint64) api.Num { return api.Num{n} }

// edges are numbers at which something may go wrong: few bits, and few bits away from powers of 2 and from multiples of the moduli.
func edges() []api.Num {
	top := plus(power(256), -1)
	near := []*big.Int{new(big.Int), top}
	for _, e := range []uint{32, 64, 96, 128, 192, 224, 252, 253, 254, 255} {
		near = append(near, power(e))
	}
	for _, f := range fields() {
		m := modulus(f)
		half := new(big.Int).Rsh(m, 1)
		near = append(near, half)
		for k := int64(1); k <= 16; k++ {
			near = append(near, times(m, k))
		}
	}
	var out []api.Num
	for _, x := range near {
		for _, d := range []int64{-2, -1, 0, 1, 2} {
			if y := plus(x, d); y.Sign() >= 0 && y.Cmp(top) <= 0 {
				out = append(out, num(y))
			}
		}
	}
	return append(out, small(19), small(38), api.Num{math.MaxUint64, 0, math.MaxUint64, 0}, api.Num{0, math.MaxUint64, 0, math.MaxUint64})
}

// drawn is any number; some of its digits are the least, or the greatest.
func drawn(r *rand.Rand) api.Num {
	var a api.Num
	for i := range a {
		switch r.Intn(8) {
		case 0:
		case 1:
			a[i] = math.MaxUint64
		case 2:
			a[i] = 0xffffffff << (r.Intn(2) * 32)
		default:
			a[i] = r.Uint64()
		}
	}
	return a
}

// both are the same question to the program and to the model.
type both struct {
	name string
	got  func(f api.Field, a, b api.Num) api.Num
	want func(a, b, m *big.Int) *big.Int
}

// reckonings are those that cost little.
func reckonings() []both {
	return []both{
		{"Add", field.Add, func(a, b, m *big.Int) *big.Int { return new(big.Int).Add(a, b) }},
		{"Sub", field.Sub, func(a, b, m *big.Int) *big.Int { return new(big.Int).Sub(a, b) }},
		{"Mul", field.Mul, func(a, b, m *big.Int) *big.Int { return new(big.Int).Mul(a, b) }},
		{"Neg", func(f api.Field, a, _ api.Num) api.Num { return field.Neg(f, a) }, func(a, b, m *big.Int) *big.Int { return new(big.Int).Neg(a) }},
	}
}

// costly are Exp and Inv.
func costly() []both {
	return []both{
		{"Exp", field.Exp, func(a, b, m *big.Int) *big.Int { return new(big.Int).Exp(a, b, m) }},
		{"Inv", func(f api.Field, a, _ api.Num) api.Num { return field.Inv(f, a) }, func(a, b, m *big.Int) *big.Int {
			if x := new(big.Int).ModInverse(a, m); x != nil {
				return x
			}
			return new(big.Int)
		}},
	}
}

// agrees: the program answers what the model does.
func agrees(t *testing.T, q both, f api.Field, a, b api.Num) {
	t.Helper()
	m := modulus(f)
	want := q.want(value(a), value(b), m)
	if got := q.got(f, a, b); got != num(want.Mod(want, m)) {
		t.Fatalf("%s of field %d, %x, %x: %x, want %x", q.name, f, value(a), value(b), value(got), want)
	}
}

func TestModulus(t *testing.T) {
	for _, f := range fields() {
		if got := value(field.Modulus(f)); got.Cmp(modulus(f)) != 0 {
			t.Errorf("modulus of field %d: %x, want %x", f, got, modulus(f))
		}
	}
}

func TestRight(t *testing.T) {
	for _, f := range fields() {
		for _, a := range edges() {
			if got, want := field.Right(f, a), value(a).Cmp(modulus(f)) < 0; got != want {
				t.Errorf("is %x below the modulus of field %d: %v", value(a), f, got)
			}
		}
	}
}

func TestNoField(t *testing.T) {
	ones := make([]byte, 100)
	for i := range ones {
		ones[i] = 255
	}
	for _, f := range noFields() {
		if field.Modulus(f) != small(0) || field.Wide(f, ones) != small(0) || field.Wide(f, nil) != small(0) {
			t.Errorf("field %d has a modulus, or rests", f)
		}
		for _, a := range edges() {
			if field.Right(f, a) {
				t.Errorf("%x is below the modulus of field %d", value(a), f)
			}
			if r, ok := field.Root(f, a); ok || r != small(0) {
				t.Errorf("field %d has a root of %x", f, value(a))
			}
			for _, q := range append(reckonings(), costly()...) {
				for _, b := range []api.Num{small(0), small(1), small(3), num(plus(power(256), -1))} {
					if q.got(f, a, b) != small(0) {
						t.Fatalf("%s of field %d is not 0", q.name, f)
					}
				}
			}
		}
	}
}

func TestReckoningsAtEdges(t *testing.T) {
	for _, f := range fields() {
		for _, a := range edges() {
			for _, b := range edges() {
				for _, q := range reckonings() {
					agrees(t, q, f, a, b)
				}
			}
		}
	}
}

func TestReckoningsOfDrawn(t *testing.T) {
	r := rand.New(rand.NewSource(1))
	for range 40000 {
		a, b := drawn(r), drawn(r)
		for _, f := range fields() {
			for _, q := range reckonings() {
				agrees(t, q, f, a, b)
			}
		}
	}
}

func TestCostlyAtEdges(t *testing.T) {
	for _, f := range fields() {
		for _, a := range edges() {
			for _, b := range []api.Num{small(0), small(1), small(2), num(plus(modulus(f), -1)), num(modulus(f)), num(plus(power(256), -1))} {
				agrees(t, costly()[0], f, a, b)
			}
			agrees(t, costly()[1], f, a, small(0))
		}
	}
}

func TestCostlyOfDrawn(t *testing.T) {
	r := rand.New(rand.NewSource(2))
	for range 500 {
		a, b := drawn(r), drawn(r)
		for _, f := range fields() {
			for _, q := range costly() {
				agrees(t, q, f, a, b)
			}
		}
	}
}

func TestExpOfZero(t *testing.T) {
	for _, f := range fields() {
		for _, zero := range []api.Num{small(0), num(modulus(f))} {
			if field.Exp(f, zero, small(0)) != small(1) {
				t.Errorf("field %d: 0 to the power of 0 is not 1", f)
			}
			if field.Exp(f, zero, small(1)) != small(0) || field.Exp(f, zero, num(plus(power(256), -1))) != small(0) {
				t.Errorf("field %d: 0 to the power of more is not 0", f)
			}
			if field.Inv(f, zero) != small(0) {
				t.Errorf("field %d: there is an inverse of 0", f)
			}
		}
	}
}

func TestFieldLaws(t *testing.T) {
	r := rand.New(rand.NewSource(3))
	for k := range 2000 {
		a, b, c := drawn(r), drawn(r), drawn(r)
		for _, f := range fields() {
			add := func(x, y api.Num) api.Num { return field.Add(f, x, y) }
			mul := func(x, y api.Num) api.Num { return field.Mul(f, x, y) }
			if add(a, b) != add(b, a) || mul(a, b) != mul(b, a) {
				t.Fatalf("field %d: turned round %x, %x", f, a, b)
			}
			if add(add(a, b), c) != add(a, add(b, c)) || mul(mul(a, b), c) != mul(a, mul(b, c)) {
				t.Fatalf("field %d: grouped otherwise %x, %x, %x", f, a, b, c)
			}
			if mul(a, add(b, c)) != add(mul(a, b), mul(a, c)) {
				t.Fatalf("field %d: shared out %x, %x, %x", f, a, b, c)
			}
			if field.Sub(f, add(a, b), b) != add(a, small(0)) {
				t.Fatalf("field %d: taken back %x, %x", f, a, b)
			}
			if k%20 == 0 && add(a, small(0)) != small(0) {
				if mul(a, field.Inv(f, a)) != small(1) || field.Exp(f, a, num(plus(modulus(f), -1))) != small(1) {
					t.Fatalf("field %d: inverse, or power of M - 1, of %x", f, a)
				}
			}
		}
	}
}
