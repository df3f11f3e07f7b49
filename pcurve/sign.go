package pcurve

import (
	"bytes"

	"drawbridge/api"
	"drawbridge/field"
	"drawbridge/mac"
)

// sumLen is how many bytes a sum has that is signed.
const sumLen = 32

// Sign signs a sum.
func Sign(d api.Num, sum []byte) (api.Num, api.Num, api.Errno) {
	if !counts(d) || len(sum) != sumLen {
		return api.Num{}, api.Num{}, api.ErrCurveNum
	}
	z := modOrder(number(sum))
	secret, told := field.ToBE(d), field.ToBE(z)
	next := keys(secret[:], told[:])
	for {
		if r, s, is := signedWith(next(), d, z); is {
			return r, s, api.OK
		}
	}
}

// Verify: is a signature a sum's, by a point's number?
func Verify(p api.Point, sum []byte, r api.Num, s api.Num) bool {
	if !tellable(p) || len(sum) != sumLen || !counts(r) || !counts(s) {
		return false
	}
	w := field.Inv(api.FN256, s)
	ofBase := field.Mul(api.FN256, number(sum), w)
	ofPoint := field.Mul(api.FN256, r, w)
	both := timesBoth(ofBase, of(Base()), ofPoint, of(p)).point()
	return both != zero() && modOrder(both.X) == r
}

// signedWith is the signature of z with the number k, which must never be used for another z; false: k makes none.
func signedWith(k api.Num, d api.Num, z api.Num) (r api.Num, s api.Num, is bool) {
	if !counts(k) {
		return api.Num{}, api.Num{}, false
	}
	r = modOrder(Mult(k, Base()).X)
	both := field.Add(api.FN256, z, field.Mul(api.FN256, r, d))
	s = field.Mul(api.FN256, field.Inv(api.FN256, k), both)
	return r, s, r != api.Num{} && s != api.Num{}
}

// keys is what gives one number after the other, made of what was said: nobody else can tell them, and nothing else that is said has them, though nothing is drawn.
func keys(said ...[]byte) func() api.Num {
	key, last := make([]byte, sumLen), bytes.Repeat([]byte{1}, sumLen)
	key, last = stir(key, last, 0, said...)
	key, last = stir(key, last, 1, said...)
	return func() api.Num {
		last = mac.Of(api.SHA256, key, last)
		k := number(last)
		// The next number, if k makes no signature, comes from a key of its own.
		key, last = stir(key, last, 0)
		return k
	}
}

// stir is the key behind a key, and what is told under it.
func stir(key []byte, last []byte, turn byte, said ...[]byte) ([]byte, []byte) {
	parts := append([][]byte{last, {turn}}, said...)
	key = mac.Of(api.SHA256, key, parts...)
	return key, mac.Of(api.SHA256, key, last)
}

// modOrder is what a number leaves modulo the order.
func modOrder(a api.Num) api.Num { return field.Add(api.FN256, a, api.Num{}) }
