package wire_test

import (
	"bytes"
	"math/rand"
	"slices"
	"strings"
	"testing"

	"drawbridge/api"
)

// texts are all texts of at most so many of these bytes.
func texts(of []byte, most int, each func(b []byte)) {
	level := [][]byte{nil}
	for {
		for _, b := range level {
			each(b)
		}
		if most--; most < 0 {
			return
		}
		var next [][]byte
		for _, b := range level {
			for _, c := range of {
				next = append(next, append(bytes.Clone(b), c))
			}
		}
		level = next
	}
}

// everything: what came of the bytes of a kind, of each alert how often.
type everything map[api.Alert]int

func (m everything) add(a api.Alert) { m[a]++ }

// met: were bytes that are one met, bytes of no one, and, where that can be, bytes with something that may not be?
func (m everything) met(t *testing.T, k one, illegal bool) {
	t.Helper()
	if m[api.AlertNone] == 0 || m[api.AlertDecode] == 0 || illegal && m[api.AlertIllegal] == 0 {
		t.Errorf("%s: %v", k.name(), m)
	}
}

// canBeIllegal: is there something that may not stand there?
func canBeIllegal(k one) bool {
	return slices.Contains([]string{"a client's hello", "a server's hello", "extensions", "certificates", "a request", "a ticket", "a name", "a staple"}, k.name())
}

// What stands ahead of all lists is no matter: so many bytes are put ahead of each text.
func ahead(k one) []byte {
	switch {
	case strings.Contains(k.name(), "hello"):
		return bytes.Repeat([]byte{1}, 34)
	case k.name() == "a ticket":
		return bytes.Repeat([]byte{2}, 8)
	case k.name() == "a signature" || k.name() == "a share":
		return []byte{3, 4}
	}
	return nil
}

func TestAllShortTexts(t *testing.T) {
	each(t, func(t *testing.T, k one) {
		seen := everything{}
		try := func(b []byte) { seen.add(k.wants(t, append(ahead(k), b...))) }
		texts([]byte{0, 1, 2}, 10, try)
		texts([]byte{0, 1, 4, 41}, 8, try)
		texts([]byte{0, 1, 2, 3, 5, 32, 33, 255}, 5, try)
		for c := range 256 {
			for d := range 256 {
				k.wants(t, []byte{byte(c), byte(d)})
				k.wants(t, []byte{byte(c), byte(d), 1})
			}
		}
		// Tickets that are offered have more bytes than these texts.
		if k.name() != "tickets that are offered" {
			seen.met(t, k, false)
		}
	})
}

// Extensions that stand twice, and among them the one that must stand last, behind all that stands ahead of them.
func TestAllOfFewExtensions(t *testing.T) {
	heads := map[string][]byte{
		"a client's hello": append(make([]byte, 35), 0, 2, 0, 1, 1, 0),
		"a server's hello": append(make([]byte, 35), 0, 1, 0),
		"extensions":       nil,
		"a request":        {0},
		"a ticket":         append(make([]byte, 9), 0, 1, 7),
	}
	each(t, func(t *testing.T, k one) {
		head, is := heads[k.name()]
		if !is {
			return
		}
		seen := everything{}
		texts([]byte{0, 1, 41, 42}, 5, func(l []byte) {
			var body []byte
			for i, c := range l {
				body = append(body, 0, c, 0, byte(i%2))
				body = append(body, make([]byte, i%2)...)
			}
			b := slices.Concat(head, []byte{0, byte(len(body))}, body)
			seen.add(k.wants(t, b))
			seen.add(k.wants(t, b[:len(b)-1]))
			seen.add(k.wants(t, append(b, 0)))
		})
		seen.met(t, k, true)
	})
}

// Each byte otherwise, left out, put in: the same as the document tells.
func TestEachByteOtherwise(t *testing.T) {
	each(t, func(t *testing.T, k one) {
		seen := everything{}
		for _, b := range k.bodies(t) {
			for at := range b {
				for more := 1; more < 256; more++ {
					// Of what is long, the same bytes in its midst need not all be tried.
					if at > 60 && at < len(b)-20 && more > 3 {
						continue
					}
					c := bytes.Clone(b)
					c[at] ^= byte(more)
					seen.add(k.wants(t, c))
				}
				seen.add(k.wants(t, slices.Delete(bytes.Clone(b), at, at+1)))
				for _, c := range []byte{0, 1, 2, 32, 255} {
					seen.add(k.wants(t, slices.Insert(bytes.Clone(b), at, c)))
				}
			}
		}
		// All that stands in a number may be there.
		seen.met(t, k, canBeIllegal(k))
	})
}

// Two bytes otherwise, so that a length is still right, and what it tells of is longer or shorter.
func TestTwoBytesOtherwise(t *testing.T) {
	each(t, func(t *testing.T, k one) {
		r := rand.New(rand.NewSource(17))
		bodies := k.bodies(t)
		for range 60000 {
			b := bytes.Clone(bodies[r.Intn(len(bodies))])
			for range 1 + r.Intn(3) {
				at := r.Intn(len(b))
				if r.Intn(4) > 0 {
					at = r.Intn(min(len(b), 60))
				}
				switch r.Intn(3) {
				case 0:
					b[at] += byte(r.Intn(5) - 2)
				case 1:
					b = slices.Insert(b, at, byte(r.Intn(3)))
				case 2:
					b = append(slices.Delete(b, at, at+1), 0)
				}
			}
			k.wants(t, b)
		}
	})
}

// What is put comes back, and what can't be put is nothing.
func TestThereAndBack(t *testing.T) {
	each(t, func(t *testing.T, k one) {
		r := rand.New(rand.NewSource(18))
		put, refused := 0, 0
		for range 400 {
			if _, may := k.drawn(t, r); may {
				put++
			} else {
				refused++
			}
		}
		if put == 0 || refused == 0 && k.name() != "a number" && k.name() != "extensions" {
			t.Errorf("%s: %d, %d", k.name(), put, refused)
		}
	})
}

// No body is the beginning of another one of its kind: cut off, none is a body, nor with something behind.
func TestCutOff(t *testing.T) {
	each(t, func(t *testing.T, k one) {
		r := rand.New(rand.NewSource(19))
		bodies := k.bodies(t)
		for range 20 {
			if b, may := k.drawn(t, r); may && len(b) < 3000 {
				bodies = append(bodies, b)
			}
		}
		for i, b := range bodies {
			for n := range b {
				if a := k.wants(t, b[:n]); a != api.AlertDecode {
					t.Errorf("%s: %x is one, cut off at %d: %d", k.name(), b, n, a)
				}
			}
			for _, more := range [][]byte{{0}, {1}, {0, 0}, b, make([]byte, 300)} {
				if a := k.wants(t, slices.Concat(b, more)); a != api.AlertDecode {
					t.Errorf("%s: %x behind: %d", k.name(), more, a)
				}
			}
			for j, c := range bodies {
				if i != j && len(b) < len(c) && bytes.HasPrefix(c, b) {
					t.Errorf("%s: %x begins %x", k.name(), b, c)
				}
			}
		}
	})
}
