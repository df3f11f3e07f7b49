package sched

import (
	"drawbridge/api"
	"drawbridge/sha"
)

// Transcript is what was said. It keeps the bytes, as nobody says ahead by which hash a sum will be asked for.
type Transcript struct{ said []byte }

// NewTranscript is one in which nothing was said.
func NewTranscript() *Transcript { return &Transcript{} }

// Add puts a message behind.
func (t *Transcript) Add(message []byte) { t.said = append(t.said, message...) }

// Retry puts one message, by its sum, in the place of all so far.
func (t *Transcript) Retry(h api.Hash) {
	if n := sha.Size(h); n > 0 {
		t.said = append([]byte{byte(api.MsgHash), 0, 0, byte(n)}, t.Sum(h)...)
	}
}

// Sum is the sum of all; With that of all and a part of another one.
func (t *Transcript) Sum(h api.Hash) []byte { return sha.Of(h, t.said) }

func (t *Transcript) With(h api.Hash, part []byte) []byte { return sha.Of(h, t.said, part) }
