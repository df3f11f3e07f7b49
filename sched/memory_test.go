package sched_test

import (
	"bytes"
	"math/rand"
	"slices"
	"testing"

	"drawbridge/api"
	"drawbridge/sched"
)

// spare is a list with spare room, all of which is 0xee.
func spare(b []byte) []byte {
	out := append(make([]byte, 0, len(b)+40), b...)
	for i := len(b); i < cap(out); i++ {
		out[:cap(out)][i] = 0xee
	}
	return out
}

// kept: is a list as it was, its spare room too?
func kept(b []byte, was []byte) bool {
	for _, c := range b[len(b):cap(b)] {
		if c != 0xee {
			return false
		}
	}
	return bytes.Equal(b, was)
}

// calls are the calls that make bytes of two lists.
func calls(h api.Hash) []func(a, b []byte) []byte {
	return []func(a, b []byte) []byte{
		func(a, b []byte) []byte { out, _ := sched.Expand(h, a, "label", b, 50); return out },
		func(a, b []byte) []byte { out, _ := sched.Expand(h, a, "label", b, 0); return out },
		func(a, b []byte) []byte { return sched.Derive(h, a, "label", b) },
		func(a, b []byte) []byte { return sched.Early(h, a) },
		func(a, b []byte) []byte { return sched.Handshake(h, a, b) },
		func(a, b []byte) []byte { return sched.Master(h, a) },
		func(a, b []byte) []byte { out, _, _ := sched.Keys(api.SuiteChaCha, a); return out },
		func(a, b []byte) []byte { return sched.Update(h, a) },
		func(a, b []byte) []byte { return sched.Finished(h, a, b) },
		func(a, b []byte) []byte { return sched.Binder(h, a, b) },
		func(a, b []byte) []byte { return sched.Resumed(h, a, b) },
	}
}

// TestNothingIsShared: what is handed in is left alone, and what comes out is nobody else's.
func TestNothingIsShared(t *testing.T) {
	r := rand.New(rand.NewSource(1))
	for _, h := range hashes {
		for i, call := range calls(h) {
			for _, n := range []int{0, 1, 32, 48, 64, 200} {
				was1, was2 := random(r, n), random(r, n)
				a, b := spare(was1), spare(was2)
				got := call(a, b)
				right := bytes.Clone(got)
				if !kept(a, was1) || !kept(b, was2) {
					t.Fatalf("call %d changes what it is handed", i)
				}
				scribble(a)
				scribble(b)
				if !bytes.Equal(got, right) {
					t.Fatalf("call %d: what comes out shares what was handed in", i)
				}
				scribble(a)
				scribble(b)
				scribble(got)
				if !kept(a, was1) || !kept(b, was2) || !bytes.Equal(call(a, b), right) {
					t.Fatalf("call %d: what was handed in shares what comes out", i)
				}
				if one := spare(was1); !bytes.Equal(call(one, one), call(was1, bytes.Clone(was1))) {
					t.Fatalf("call %d: one list for both", i)
				}
			}
		}
	}
}

func TestTranscriptKeepsNoMessage(t *testing.T) {
	r := rand.New(rand.NewSource(4))
	for n := range 200 {
		x := sched.NewTranscript()
		was := random(r, n)
		message := spare(was)
		for i := range 3 {
			x.Add(message)
			scribble(message)
			sums(t, "a message is kept", x, bytes.Repeat(was, i+1), message)
			scribble(message)
			if !kept(message, was) {
				t.Fatal("a message is changed")
			}
		}
	}
}

func TestTranscriptChangesNoMessage(t *testing.T) {
	r := rand.New(rand.NewSource(2))
	for first := range 50 {
		x := sched.NewTranscript()
		var said []byte
		var messages, were [][]byte
		for n := range 25 {
			was := random(r, first+n)
			message, part := spare(was), spare(was)
			x.Add(message)
			said = append(said, was...)
			want(t, "With", x.With(api.SHA256, part), sumOf(api.SHA256, said, was))
			if !kept(message, was) || !kept(part, was) {
				t.Fatal("a message is changed")
			}
			messages, were = append(messages, message, part), append(were, was, was)
			if n%10 == 9 {
				x.Retry(api.SHA384)
				said = retried(api.SHA384, said)
			}
			sums(t, "a message", x, said, nil)
		}
		for i := range messages {
			if !kept(messages[i], were[i]) {
				t.Fatal("a message is changed later")
			}
			scribble(messages[i])
		}
		sums(t, "messages are kept", x, said, nil)
		x.Add([]byte("behind"))
		sums(t, "messages are kept", x, append(said, "behind"...), nil)
	}
}

// xored is what scribble makes.
func xored(b []byte) []byte {
	out := bytes.Clone(b)
	scribble(out)
	return out[:len(b)]
}

func TestTicketsShareNothing(t *testing.T) {
	r := rand.New(rand.NewSource(3))
	for range 200 {
		k, nonce, s := keyOf(r), nonceOf(r), sessionOf(r)
		was := bytes.Clone(s.Secret)
		s.Secret = spare(was)
		b := seals(t, k, nonce, s)
		right := ticketOf(t, k, nonce, textOf(s))
		if !kept(s.Secret, was) {
			t.Fatal("SealTicket changes a secret")
		}
		scribble(s.Secret)
		if !bytes.Equal(b, right) {
			t.Fatal("a ticket shares its secret")
		}
		scribble(b)
		if !bytes.Equal(s.Secret, xored(was)) {
			t.Fatal("a secret shares its ticket")
		}
		s.Secret = was
		ticket, keys := spare(right), []api.TicketKey{keyOf(r), k, keyOf(r), k, {}}
		wereKeys := bytesOf(keys)
		got, e := sched.OpenTicket(keys[:4], ticket)
		if e != api.OK || !kept(ticket, right) || !slices.Equal(keys, wereKeys) {
			t.Fatalf("OpenTicket changes what it is handed: %v", e)
		}
		scribble(ticket)
		clear(keys)
		if !same(got, s) {
			t.Fatal("a session shares its ticket")
		}
		scribble(got.Secret)
		if !bytes.Equal(ticket, xored(right)) {
			t.Fatal("a ticket shares its session")
		}
		opens(t, wereKeys, right, s)
	}
}
