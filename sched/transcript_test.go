package sched_test

import (
	"bytes"
	"math/rand"
	"testing"

	"drawbridge/api"
	"drawbridge/sched"
)

// retried is what stands in the place of all that was said.
func retried(h api.Hash, said []byte) []byte {
	return append([]byte{0xfe, 0, 0, byte(size(h))}, sumOf(h, said)...)
}

// sums: a transcript's sums are those of what was said, with a part behind and without.
func sums(t *testing.T, what string, x *sched.Transcript, said []byte, part []byte) {
	t.Helper()
	for _, h := range hashes {
		want(t, what, x.Sum(h), sumOf(h, said))
		want(t, what+", with a part", x.With(h, part), sumOf(h, said, part))
	}
}

func TestTranscriptOfNothing(t *testing.T) {
	x := sched.NewTranscript()
	sums(t, "new", x, nil, nil)
	sums(t, "new", x, nil, []byte("part"))
	x.Add(nil)
	x.Add([]byte{})
	sums(t, "nothing was added", x, nil, nil)
}

func TestTranscript(t *testing.T) {
	r := rand.New(rand.NewSource(1))
	for range 200 {
		x := sched.NewTranscript()
		var said []byte
		for range r.Intn(40) {
			switch r.Intn(5) {
			case 0:
				h := hashes[r.Intn(3)]
				want(t, "Sum", x.Sum(h), sumOf(h, said))
			case 1:
				h, part := hashes[r.Intn(3)], some(r)
				want(t, "With", x.With(h, part), sumOf(h, said, part))
			default:
				message := random(r, r.Intn(1+r.Intn(500)))
				said = append(said, message...)
				x.Add(message)
			}
		}
		sums(t, "in the end", x, said, some(r))
	}
}

// TestSumsBetween: two transcripts of the same messages have the same sums, whatever was asked of the one between.
func TestSumsBetween(t *testing.T) {
	r := rand.New(rand.NewSource(2))
	asked, quiet := sched.NewTranscript(), sched.NewTranscript()
	var said []byte
	for n := range 300 {
		message := random(r, n%70)
		asked.Add(message)
		quiet.Add(message)
		said = append(said, message...)
		h := hashes[n%3]
		asked.Sum(h)
		asked.With(h, message)
		asked.With(hashes[(n+1)%3], []byte("part"))
		asked.Sum(0)
	}
	sums(t, "asked", asked, said, nil)
	sums(t, "quiet", quiet, said, nil)
}

// TestRetry: by each hash, of nothing too, again and again; what comes behind stands behind.
func TestRetry(t *testing.T) {
	r := rand.New(rand.NewSource(3))
	for _, h := range hashes {
		x := sched.NewTranscript()
		var said []byte
		for n := range 20 {
			x.Retry(h)
			said = retried(h, said)
			sums(t, "Retry", x, said, some(r))
			message := random(r, n*n)
			x.Add(message)
			said = append(said, message...)
			sums(t, "behind it", x, said, some(r))
			if n%4 == 3 {
				h = hashes[r.Intn(3)]
			}
		}
	}
}

func TestTranscriptOfNoHash(t *testing.T) {
	x := sched.NewTranscript()
	var said []byte
	for _, message := range []string{"", "first", "second"} {
		x.Add([]byte(message))
		said = append(said, message...)
		for _, h := range noHashes {
			x.Retry(h)
			if len(x.Sum(h)) != 0 || len(x.With(h, []byte("part"))) != 0 {
				t.Errorf("hash %d: %x, %x", h, x.Sum(h), x.With(h, []byte("part")))
			}
		}
		sums(t, "no hash", x, said, nil)
	}
}

// TestTranscriptsAreApart: each has its own.
func TestTranscriptsAreApart(t *testing.T) {
	one, two := sched.NewTranscript(), sched.NewTranscript()
	one.Add([]byte("one"))
	two.Add([]byte("two"))
	one.Retry(api.SHA384)
	sums(t, "one", one, retried(api.SHA384, []byte("one")), nil)
	sums(t, "two", two, []byte("two"), nil)
}

// TestLongTranscript: as many bytes as the longest messages of a handshake have, and more.
func TestLongTranscript(t *testing.T) {
	x := sched.NewTranscript()
	message := bytes.Repeat([]byte("0123456789abcdef"), 1024)
	var said []byte
	for range 20 {
		x.Add(message)
		said = append(said, message...)
	}
	sums(t, "long", x, said, message)
}
