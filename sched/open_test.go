package sched_test

import (
	"bytes"
	"math/rand"
	"testing"

	"drawbridge/api"
	"drawbridge/sched"
)

// same: are these the same sessions?
func same(a, b api.Session) bool {
	return a.Suite == b.Suite && bytes.Equal(a.Secret, b.Secret) && a.Host == b.Host && a.Protocol == b.Protocol &&
		a.Made == b.Made && a.Life == b.Life && a.Add == b.Add
}

// opens: OpenTicket answers the session.
func opens(t *testing.T, keys []api.TicketKey, b []byte, want api.Session) {
	t.Helper()
	got, e := sched.OpenTicket(keys, b)
	if e != api.OK || !same(got, want) {
		t.Fatalf("%d keys, ticket %x: %+v, %v, want %+v", len(keys), b, got, e, want)
	}
	scribble(got.Secret)
}

// refusesTicket: OpenTicket answers an error and nothing else.
func refusesTicket(t *testing.T, why string, keys []api.TicketKey, b []byte) {
	t.Helper()
	got, e := sched.OpenTicket(keys, b)
	if e != api.ErrTicketOther || !same(got, api.Session{}) {
		t.Fatalf("%s: %d keys, ticket %x: %+v, %v", why, len(keys), b, got, e)
	}
}

func TestOpenExample(t *testing.T) {
	refusesTicket(t, "no keys", nil, nil)
	refusesTicket(t, "no keys", nil, []byte("any"))
	refusesTicket(t, "no keys", []api.TicketKey{}, make([]byte, 100))
}

func TestThereAndBack(t *testing.T) {
	r := rand.New(rand.NewSource(1))
	for range 2000 {
		var keys []api.TicketKey
		for range 1 + r.Intn(5) {
			keys = append(keys, keyOf(r))
		}
		i, s := r.Intn(len(keys)), sessionOf(r)
		b := seals(t, keys[i], nonceOf(r), s)
		opens(t, keys, b, s)
		opens(t, keys[i:i+1], b, s)
		refusesTicket(t, "its key is not there", append(bytesOf(keys[:i]), keys[i+1:]...), b)
	}
}

// bytesOf is a list of its own.
func bytesOf(keys []api.TicketKey) []api.TicketKey { return append([]api.TicketKey(nil), keys...) }

// TestKeysOfOneName: those that don't open it are passed over, wherever they stand, and those that stand twice do no harm.
func TestKeysOfOneName(t *testing.T) {
	r := rand.New(rand.NewSource(2))
	for range 300 {
		k, s := keyOf(r), sessionOf(r)
		b := seals(t, k, nonceOf(r), s)
		var keys []api.TicketKey
		for range 1 + r.Intn(5) {
			other := keyOf(r)
			other.Name = k.Name
			keys = append(keys, other, other)
		}
		refusesTicket(t, "another key of the same name", keys, b)
		at := r.Intn(len(keys) + 1)
		with := append(append(bytesOf(keys[:at]), k), keys[at:]...)
		opens(t, with, b, s)
		opens(t, append(with, k, k), b, s)
	}
}

// TestKeysOfOtherNames: a key that would open it, but for its name, does not.
func TestKeysOfOtherNames(t *testing.T) {
	r := rand.New(rand.NewSource(3))
	k, s := keyOf(r), sessionOf(r)
	b := seals(t, k, nonceOf(r), s)
	for bit := range 32 {
		other := k
		other.Name[bit/8] ^= 1 << (bit % 8)
		refusesTicket(t, "another name", []api.TicketKey{other}, b)
		opens(t, []api.TicketKey{other, k}, b, s)
		renamed := bytes.Clone(b)
		copy(renamed, other.Name[:])
		refusesTicket(t, "the name is aside", []api.TicketKey{other, k}, renamed)
	}
	for bit := range 256 {
		other := k
		other.Key[bit/8] ^= 1 << (bit % 8)
		refusesTicket(t, "another key", []api.TicketKey{other}, b)
		opens(t, []api.TicketKey{other, k}, b, s)
	}
	// A key without a name is one that is called by noughts.
	zero := api.TicketKey{}
	opens(t, []api.TicketKey{k, zero}, seals(t, zero, [12]byte{}, s), s)
	refusesTicket(t, "noughts", []api.TicketKey{zero}, b)
	refusesTicket(t, "noughts", []api.TicketKey{zero}, make([]byte, 200))
}

// TestTicketsOfOthers: each bit turned, each end cut off, bytes behind.
func TestTicketsOfOthers(t *testing.T) {
	r := rand.New(rand.NewSource(4))
	for range 3 {
		k, s := keyOf(r), sessionOf(r)
		b := seals(t, k, nonceOf(r), s)
		keys := []api.TicketKey{k}
		for bit := range 8 * len(b) {
			turned := bytes.Clone(b)
			turned[bit/8] ^= 1 << (bit % 8)
			refusesTicket(t, "a bit turned", keys, turned)
		}
		for n := range b {
			refusesTicket(t, "cut off", keys, b[:n])
			refusesTicket(t, "cut off ahead", keys, b[n+1:])
		}
		for n := range 40 {
			refusesTicket(t, "more behind", keys, append(bytes.Clone(b), make([]byte, n+1)...))
		}
		opens(t, keys, b, s)
	}
	for n := range 200 {
		refusesTicket(t, "any bytes", []api.TicketKey{{}}, make([]byte, n))
		refusesTicket(t, "any bytes", []api.TicketKey{{}}, append(make([]byte, 4), random(r, n)...))
	}
}

// TestTextsThatAreNoSession: the key itself locked them up, but not as SealTicket does.
func TestTextsThatAreNoSession(t *testing.T) {
	r := rand.New(rand.NewSource(5))
	k := keyOf(r)
	keys := []api.TicketKey{k, keyOf(r), k}
	refused := func(why string, text []byte) {
		t.Helper()
		refusesTicket(t, why, keys, ticketOf(t, k, nonceOf(r), text))
	}
	for range 30 {
		s := sessionOf(r)
		text := textOf(s)
		opens(t, keys, ticketOf(t, k, nonceOf(r), text), s)
		for n := range text {
			refused("it ends too early", text[:n])
		}
		for n := range 20 {
			refused("something stands behind", append(bytes.Clone(text), make([]byte, n+1)...))
		}
		for _, other := range []api.Suite{0, 1, 0x1300, 0x1304, 0x0113, 0x1403, 0xffff, s.Suite ^ 0x8000} {
			wrong := s
			wrong.Suite = other
			refused("no suite", textOf(wrong))
		}
		for n := range 256 {
			wrong := s
			wrong.Secret = random(r, n)
			if n != len(s.Secret) {
				refused("a secret of another length", textOf(wrong))
			}
		}
		for n := 254; n < 256; n++ {
			wrong := s
			wrong.Host = string(random(r, n))
			refused("a host too long", textOf(wrong))
		}
		long := s
		long.Host, long.Protocol = string(random(r, 253)), string(random(r, 255))
		opens(t, keys, ticketOf(t, k, nonceOf(r), textOf(long)), long)
	}
	refused("nothing", nil)
	refused("noughts", make([]byte, 52))
	for range 500 {
		refused("anything", random(r, r.Intn(200)))
	}
}

// TestEachByteOfAText: whatever is locked up is a session just if SealTicket makes the same of it.
func TestEachByteOfAText(t *testing.T) {
	r := rand.New(rand.NewSource(6))
	k := keyOf(r)
	is, not := 0, 0
	s := api.Session{Suite: api.SuiteAES256, Secret: random(r, 48), Host: "a.b", Protocol: "h2", Made: 5, Life: 6, Add: 7}
	for i := range textOf(s) {
		for c := range 256 {
			text := textOf(s)
			text[i] = byte(c)
			nonce := nonceOf(r)
			b := ticketOf(t, k, nonce, text)
			got, e := sched.OpenTicket([]api.TicketKey{k}, b)
			if e != api.OK {
				not++
				refusesTicket(t, "it is no session", []api.TicketKey{k}, b)
				continue
			}
			is++
			want(t, "sealed again", seals(t, k, nonce, got), b)
		}
	}
	// What tells a suite or a length may be just what it is; all else may be anything.
	if is != 5+256*(48+3+2+16) || not != 5*255 {
		t.Errorf("%d are sessions, %d are not", is, not)
	}
}
