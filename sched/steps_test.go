package sched_test

import (
	"math/rand"
	"testing"

	"drawbridge/api"
	"drawbridge/sched"
)

func TestSteps(t *testing.T) {
	r := rand.New(rand.NewSource(1))
	for range 2000 {
		h, a, b := hashes[r.Intn(3)], some(r), some(r)
		want(t, "Early", sched.Early(h, a), earlyOf(h, a))
		want(t, "Handshake", sched.Handshake(h, a, b), nextOf(h, a, b))
		want(t, "Master", sched.Master(h, a), nextOf(h, a, make([]byte, size(h))))
		want(t, "Update", sched.Update(h, a), derived(h, a, "traffic upd", nil))
		want(t, "Finished", sched.Finished(h, a, b), finishedOf(h, a, b))
		want(t, "Binder", sched.Binder(h, a, b), binderOf(h, a, b))
		nonce := random(r, r.Intn(256))
		want(t, "Resumed", sched.Resumed(h, a, nonce), derived(h, a, "resumption", nonce))
	}
}

// TestWithoutATicket: no secret is as one of noughts, as many as a sum has, and as no other one.
func TestWithoutATicket(t *testing.T) {
	for _, h := range hashes {
		none := sched.Early(h, nil)
		want(t, "Early of an empty list", sched.Early(h, []byte{}), none)
		want(t, "Early of zeros", sched.Early(h, make([]byte, size(h))), none)
		for _, n := range []int{1, size(h) - 1, size(h) + 1} {
			if other := sched.Early(h, make([]byte, n)); string(other) == string(none) {
				t.Errorf("hash %d: %d noughts are as none", h, n)
			}
		}
		want(t, "Binder of no secret", sched.Binder(h, nil, []byte("sum")), binderOf(h, make([]byte, size(h)), []byte("sum")))
	}
}

// TestNoncesOfTickets: what can't be expanded is nothing.
func TestNoncesOfTickets(t *testing.T) {
	for _, h := range hashes {
		for _, n := range []int{0, 1, 254, 255} {
			want(t, "Resumed", sched.Resumed(h, []byte("master"), make([]byte, n)), derived(h, []byte("master"), "resumption", make([]byte, n)))
		}
		for _, n := range []int{256, 257, 511, 512, 1 << 16} {
			if b := sched.Resumed(h, []byte("master"), make([]byte, n)); len(b) != 0 {
				t.Errorf("hash %d, a nonce of %d bytes: %x", h, n, b)
			}
		}
	}
}

func TestKeys(t *testing.T) {
	r := rand.New(rand.NewSource(2))
	for range 1000 {
		s, secret := suites[r.Intn(3)], some(r)
		key, iv, e := sched.Keys(s, secret)
		if e != api.OK {
			t.Fatalf("suite %x: %v", s, e)
		}
		want(t, "the key", key, expanded(hashOf(s), secret, "key", nil, keyLen(s)))
		want(t, "the iv", iv[:], expanded(hashOf(s), secret, "iv", nil, 12))
	}
}

func TestKeysOfNoSuite(t *testing.T) {
	for s := range 1 << 16 {
		key, iv, e := sched.Keys(api.Suite(s), []byte("secret"))
		if is := s >= 0x1301 && s <= 0x1303; is != (e == api.OK) || !is && (e != api.ErrSchedLabel || len(key) != 0 || iv != [12]byte{}) {
			t.Fatalf("suite %x: %x, %x, %v", s, key, iv, e)
		}
	}
}

func TestNoHash(t *testing.T) {
	b := []byte("secret")
	for _, h := range noHashes {
		for i, got := range [][]byte{
			sched.Early(h, nil), sched.Early(h, b), sched.Handshake(h, b, b), sched.Handshake(h, nil, nil), sched.Master(h, b),
			sched.Update(h, b), sched.Finished(h, b, b), sched.Finished(h, nil, nil), sched.Binder(h, b, b), sched.Binder(h, nil, nil),
			sched.Resumed(h, b, b), sched.Resumed(h, b, make([]byte, 256)),
		} {
			if len(got) != 0 {
				t.Errorf("hash %d, call %d: %x", h, i, got)
			}
		}
	}
}
