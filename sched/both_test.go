package sched_test

import (
	"encoding/binary"
	"math/big"
	"slices"
	"testing"

	"drawbridge/api"
	"drawbridge/chacha"
)

// ChaCha20-Poly1305 lets who has two keys make bytes that both of them open. Such a ticket tells which key counts: the first one that finds a session in them.

// bothNonce was looked for: by it the streams of both keys differ just so that one text has the suite 1301 where the other one has 1303, and both have secrets of 32 bytes.
const bothNonce = 7573309

// In both texts a host begins at 36; the free piece is what the codes are made alike by.
const (
	freeAt, countAt, freeLen = 48, 64, 16
	firstHost, firstProtocol = 124, 56
	otherHost, otherProtocol = 100, 80
)

// opener is a key, and what it makes of a nonce.
type opener struct {
	key    api.TicketKey
	stream []byte
	once   [32]byte // the key of the one code
}

func openerOf(first byte, nonce [12]byte, n int) opener {
	k := api.TicketKey{Name: [4]byte{'n', 'a', 'm', 'e'}, Key: [32]byte{first}}
	block := chacha.Block(k.Key, 0, nonce)
	return opener{k, chacha.Stream(k.Key, 1, nonce, make([]byte, n)), [32]byte(block[:32])}
}

// opened is the session that a key finds in what was locked up, if its lengths are these.
func (o opener) opened(locked []byte, host, protocol int) api.Session {
	b := make([]byte, len(locked))
	for i := range b {
		b[i] = locked[i] ^ o.stream[i]
	}
	behind := 36 + host + 1 + protocol
	return api.Session{
		Suite: api.Suite(binary.BigEndian.Uint16(b)), Secret: b[3:35], Host: string(b[36 : 36+host]), Protocol: string(b[behind-protocol : behind]),
		Made: binary.BigEndian.Uint64(b[behind:]), Life: binary.BigEndian.Uint32(b[behind+8:]), Add: binary.BigEndian.Uint32(b[behind+12:]),
	}
}

// told is what the code is of.
func (o opener) told(locked []byte) []byte {
	b := append(o.key.Name[:], make([]byte, 12)...)
	b = append(b, locked...)
	b = append(b, make([]byte, -len(b)&15)...)
	return binary.LittleEndian.AppendUint64(binary.LittleEndian.AppendUint64(b, 4), uint64(len(locked)))
}

func power(n uint) *big.Int { return new(big.Int).Lsh(big.NewInt(1), n) }

func prime() *big.Int { return new(big.Int).Sub(power(130), big.NewInt(5)) }

// little is a number whose lowest byte stands first.
func little(b []byte) *big.Int {
	b = slices.Clone(b)
	slices.Reverse(b)
	return new(big.Int).SetBytes(b)
}

// weights are what the code is when the free piece counts nought, and how often the free piece counts in it.
func (o opener) weights(locked []byte) (rest, free *big.Int) {
	mask, _ := new(big.Int).SetString("0ffffffc0ffffffc0ffffffc0fffffff", 16)
	r := new(big.Int).And(little(o.once[:16]), mask)
	rest, free = new(big.Int), new(big.Int)
	b := o.told(locked)
	for i := 0; i < len(b); i += 16 {
		piece := new(big.Int).Add(little(b[i:i+16]), power(128))
		if i == 16+freeAt {
			piece, free = new(big.Int), big.NewInt(1)
		}
		rest.Mod(rest.Mul(rest.Add(rest, piece), r), prime())
		free.Mod(free.Mul(free, r), prime())
	}
	return rest.Add(rest, little(o.once[16:])), free
}

// alike changes the free piece, and the number ahead of which it stands, till the codes by both keys are the same: the code.
func alike(t *testing.T, one, two opener, locked []byte) []byte {
	t.Helper()
	for count := range uint64(1000) {
		binary.BigEndian.PutUint64(locked[countAt:], count)
		rest1, free1 := one.weights(locked)
		rest2, free2 := two.weights(locked)
		x := new(big.Int).ModInverse(new(big.Int).Sub(free1, free2), prime())
		x.Mod(x.Mul(x, new(big.Int).Sub(rest2, rest1)), prime())
		if x.Cmp(power(128)) < 0 || x.Cmp(power(129)) >= 0 {
			continue
		}
		piece := new(big.Int).Sub(x, power(128)).FillBytes(make([]byte, freeLen))
		slices.Reverse(piece)
		copy(locked[freeAt:], piece)
		if code := chacha.Poly(one.once, one.told(locked)); code == chacha.Poly(two.once, two.told(locked)) {
			return code[:]
		}
	}
	t.Fatal("no codes that are alike")
	return nil
}

// both are two keys, and a ticket that both open: the second one's session, and the first one's; if the length of that one's protocol is turned, it is no session.
func both(t *testing.T, turned byte) (one, two api.TicketKey, first, second api.Session, ticket []byte) {
	t.Helper()
	var nonce [12]byte
	binary.BigEndian.PutUint64(nonce[4:], bothNonce)
	s := api.Session{
		Suite: api.SuiteChaCha, Secret: make([]byte, 32), Host: string(make([]byte, otherHost)),
		Protocol: string(make([]byte, otherProtocol)), Made: 1, Life: 2, Add: 3,
	}
	locked := textOf(s)
	o1, o2 := openerOf(1, nonce, len(locked)), openerOf(2, nonce, len(locked))
	for i := range locked {
		locked[i] ^= o2.stream[i]
	}
	locked[36+firstHost] = o1.stream[36+firstHost] ^ firstProtocol ^ turned
	code := alike(t, o1, o2, locked)
	first, second = o1.opened(locked, firstHost, firstProtocol), o2.opened(locked, otherHost, otherProtocol)
	return o1.key, o2.key, first, second, slices.Concat(o1.key.Name[:], nonce[:], locked, code)
}

// TestFirstKeyCounts: of two keys that open a ticket, each to a session of its own.
func TestFirstKeyCounts(t *testing.T) {
	one, two, first, second, b := both(t, 0)
	other := api.TicketKey{Name: one.Name, Key: [32]byte{3}}
	nobody := api.TicketKey{Name: [4]byte{1}, Key: one.Key}
	for _, keys := range [][]api.TicketKey{{one}, {one, two}, {other, one, two}, {nobody, one, two}, {one, one, two, other}} {
		opens(t, keys, b, first)
	}
	for _, keys := range [][]api.TicketKey{{two}, {two, one}, {other, two, one}, {nobody, two, one}, {two, two, one, other}} {
		opens(t, keys, b, second)
	}
}

// TestFirstKeyOpensNoSession: its lock fits, but it makes no ticket of the bytes (they are too few, too many), and so the next one that does counts.
func TestFirstKeyOpensNoSession(t *testing.T) {
	for _, turned := range []byte{1, 8} {
		one, two, _, second, b := both(t, turned)
		other := api.TicketKey{Name: one.Name, Key: [32]byte{3}}
		for _, keys := range [][]api.TicketKey{{one}, {one, one}, {other, one}, {one, other}} {
			refusesTicket(t, "no session", keys, b)
		}
		for _, keys := range [][]api.TicketKey{{two}, {one, two}, {two, one}, {one, two, one}, {other, one, two}, {one, other, one, two}} {
			opens(t, keys, b, second)
		}
	}
}
