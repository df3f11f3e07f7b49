package sched_test

import (
	"bytes"
	"encoding/binary"
	"math"
	"math/rand"
	"testing"

	"drawbridge/api"
	"drawbridge/sched"
	"drawbridge/suite"
)

func keyOf(r *rand.Rand) api.TicketKey {
	return api.TicketKey{Name: [4]byte(random(r, 4)), Key: [32]byte(random(r, 32))}
}

func nonceOf(r *rand.Rand) [12]byte { return [12]byte(random(r, 12)) }

// edge is a length up to most: often one of the ends.
func edge(r *rand.Rand, most int) int {
	return []int{0, most, r.Intn(most + 1), r.Intn(20)}[r.Intn(4)]
}

func sessionOf(r *rand.Rand) api.Session {
	s := suites[r.Intn(3)]
	return api.Session{
		Suite: s, Secret: random(r, size(hashOf(s))), Host: text(r, edge(r, 253)), Protocol: text(r, edge(r, 255)),
		Made: r.Uint64() >> r.Intn(64), Life: r.Uint32() >> r.Intn(32), Add: r.Uint32() >> r.Intn(32),
	}
}

// textOf is a session's bytes by hand.
func textOf(s api.Session) []byte {
	b := binary.BigEndian.AppendUint16(nil, uint16(s.Suite))
	b = append(append(b, byte(len(s.Secret))), s.Secret...)
	b = append(append(b, byte(len(s.Host))), s.Host...)
	b = append(append(b, byte(len(s.Protocol))), s.Protocol...)
	b = binary.BigEndian.AppendUint64(b, s.Made)
	b = binary.BigEndian.AppendUint32(b, s.Life)
	return binary.BigEndian.AppendUint32(b, s.Add)
}

// ticketOf is a ticket that has any text.
func ticketOf(t *testing.T, k api.TicketKey, nonce [12]byte, text []byte) []byte {
	t.Helper()
	b, e := suite.Seal(api.SuiteChaCha, k.Key[:], nonce, k.Name[:], text)
	if e != api.OK {
		t.Fatal(e)
	}
	return append(append(k.Name[:], nonce[:]...), b...)
}

// seals is what SealTicket answers, which must be no error.
func seals(t *testing.T, k api.TicketKey, nonce [12]byte, s api.Session) []byte {
	t.Helper()
	b, e := sched.SealTicket(k, nonce, s)
	if e != api.OK {
		t.Fatalf("%+v: %v", s, e)
	}
	return b
}

// refusesSession: SealTicket answers an error and nothing else.
func refusesSession(t *testing.T, why string, s api.Session) {
	t.Helper()
	if b, e := sched.SealTicket(api.TicketKey{}, [12]byte{}, s); e != api.ErrSchedLabel || len(b) != 0 {
		t.Fatalf("%s: %x, %v", why, b, e)
	}
}

func TestSealTicket(t *testing.T) {
	r := rand.New(rand.NewSource(1))
	for range 3000 {
		k, nonce, s := keyOf(r), nonceOf(r), sessionOf(r)
		want(t, "a ticket", seals(t, k, nonce, s), ticketOf(t, k, nonce, textOf(s)))
	}
}

// TestTicketByHand: what is locked up, byte for byte.
func TestTicketByHand(t *testing.T) {
	k := api.TicketKey{Name: [4]byte{1, 2, 3, 4}, Key: [32]byte{9}}
	s := api.Session{
		Suite: api.SuiteAES256, Secret: bytes.Repeat([]byte{7}, 48), Host: "a.b", Protocol: "h2",
		Made: 0x0102030405060708, Life: 0x0a0b0c0d, Add: 0xfdfeff00,
	}
	b := seals(t, k, [12]byte{11: 5}, s)
	if len(b) != 4+12+2+1+48+1+3+1+2+8+4+4+16 {
		t.Errorf("%d bytes", len(b))
	}
	want(t, "the head", bytes.Clone(b[:16]), []byte{1, 2, 3, 4, 0, 0, 0, 0, 0, 0, 0, 0, 0, 0, 0, 5})
	text, e := suite.Open(api.SuiteChaCha, k.Key[:], [12]byte{11: 5}, k.Name[:], b[16:])
	if e != api.OK {
		t.Fatal(e)
	}
	want(t, "the text", text, of(t, "1302 30"+string(bytes.Repeat([]byte("07"), 48))+"03 612e62 02 6832 0102030405060708 0a0b0c0d fdfeff00"))
}

func TestSuitesOfTickets(t *testing.T) {
	for s := range 1 << 16 {
		for _, n := range []int{0, 32, 48, 64} {
			session := api.Session{Suite: api.Suite(s), Secret: make([]byte, n)}
			is := (s == 0x1301 || s == 0x1303) && n == 32 || s == 0x1302 && n == 48
			if !is {
				refusesSession(t, "a suite", session)
				continue
			}
			seals(t, api.TicketKey{}, [12]byte{}, session)
		}
	}
}

func TestSecretsOfTickets(t *testing.T) {
	for _, s := range suites {
		for n := range 300 {
			session := api.Session{Suite: s, Secret: make([]byte, n)}
			if n != size(hashOf(s)) {
				refusesSession(t, "a secret", session)
				continue
			}
			seals(t, api.TicketKey{}, [12]byte{}, session)
		}
	}
}

func TestTextsOfTickets(t *testing.T) {
	r := rand.New(rand.NewSource(2))
	for n := range 600 {
		for _, s := range suites {
			plain := api.Session{Suite: s, Secret: random(r, size(hashOf(s))), Host: "a.b", Protocol: "h2"}
			host, protocol := plain, plain
			host.Host, protocol.Protocol = text(r, n), text(r, n)
			k, nonce := keyOf(r), nonceOf(r)
			if n <= 253 {
				want(t, "a host", seals(t, k, nonce, host), ticketOf(t, k, nonce, textOf(host)))
			} else {
				refusesSession(t, "a host", host)
			}
			if n <= 255 {
				want(t, "a protocol", seals(t, k, nonce, protocol), ticketOf(t, k, nonce, textOf(protocol)))
			} else {
				refusesSession(t, "a protocol", protocol)
			}
		}
	}
	both := api.Session{Suite: api.SuiteAES128, Secret: make([]byte, 32), Host: text(r, 254), Protocol: text(r, 256)}
	refusesSession(t, "both", both)
	both.Host, both.Protocol = text(r, 253), text(r, 255)
	seals(t, api.TicketKey{}, [12]byte{}, both)
}

// TestNumbersOfTickets: whatever they are, they are no reason to refuse a session, and stand in it whole.
func TestNumbersOfTickets(t *testing.T) {
	for _, n := range []uint64{0, 1, 255, 256, 1<<31 - 1, 1 << 31, 1<<32 - 1, 1 << 32, 1<<63 - 1, 1 << 63, math.MaxUint64} {
		s := api.Session{Suite: api.SuiteChaCha, Secret: make([]byte, 32), Made: n, Life: uint32(n), Add: uint32(n >> 1)}
		b := seals(t, api.TicketKey{}, [12]byte{}, s)
		opens(t, []api.TicketKey{{}}, b, s)
	}
}
