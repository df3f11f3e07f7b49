package sched

import "strings"

// infoOf is what a secret is expanded with.
func infoOf(label string, context []byte, n int) []byte {
	var b strings.Builder
	number, part := digits(&b), counted(&b)
	number(2, uint64(n))
	part(prefix + label)
	part(string(context))
	return []byte(b.String())
}

// digits is what puts a number of n bytes behind.
func digits(b *strings.Builder) func(n int, v uint64) {
	octet := b.WriteByte
	return func(n int, v uint64) {
		for i := n - 1; i >= 0; i-- {
			octet(byte(v >> (8 * i)))
		}
	}
}

// counted is what puts a part behind, ahead of it a byte that says how many bytes it has.
func counted(b *strings.Builder) func(part string) {
	octet, text := b.WriteByte, b.WriteString
	return func(part string) {
		octet(byte(len(part)))
		text(part)
	}
}

// reader reads a text from its beginning on, till it is short of what must be there.
type reader struct {
	rest  []byte
	short bool
}

// take are the next n bytes; nothing, if there are not so many.
func (r *reader) take(n int) []byte {
	if n > len(r.rest) {
		r.short = true
		return nil
	}
	b := r.rest[:n]
	r.rest = r.rest[n:]
	return b
}

// digits is a number of n bytes.
func (r *reader) digits(n int) uint64 {
	v := uint64(0)
	for _, c := range r.take(n) {
		v = v<<8 | uint64(c)
	}
	return v
}

// counted is a part behind a byte that says how many bytes it has.
func (r *reader) counted() []byte { return r.take(int(r.digits(1))) }

// done: was all there, and nothing behind it?
func (r *reader) done() bool { return !r.short && len(r.rest) == 0 }
