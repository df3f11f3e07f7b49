package sched

import (
	"drawbridge/api"
	"drawbridge/mac"
	"drawbridge/sha"
)

// step makes a secret of another one, and of what comes to it.
type step func(secret []byte, more []byte) []byte

// labelled is the step that expands a secret by a label, to as many bytes as a sum has. What comes to it is the context; nothing is made of one that is refused.
func labelled(h api.Hash, label string) step {
	size := sha.Size(h)
	return func(secret []byte, context []byte) []byte {
		b, _ := Expand(h, secret, label, context, size)
		return b
	}
}

// mixed is the step that goes from one of the three secrets to the next: what comes to it is mixed in.
func mixed(h api.Hash) step {
	derived, none := labelled(h, "derived"), sha.Of(h)
	return func(secret []byte, more []byte) []byte {
		return mac.Extract(h, derived(secret, none), more)
	}
}

// zeros stand where nothing secret comes.
func zeros(h api.Hash) []byte { return make([]byte, sha.Size(h)) }
