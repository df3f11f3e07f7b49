// Package world is layer 1: a clock, draws and pipes, all of them moved by a script alone. See shared/doc/01-world.md.
package world

import "drawbridge/api"

// After is a time, and so much; MaxTime, if that is more.
func After(now uint64, n uint64) uint64 {
	// What is left is asked ahead of the sum, which might wrap.
	if now >= api.MaxTime || n > api.MaxTime-now {
		return api.MaxTime
	}
	return now + n
}

// Clock is a clock that a script moves.
type Clock struct {
	time uint64
}

// Now is its time.
func (c *Clock) Now() uint64 { return c.time }

// Tick moves it on.
func (c *Clock) Tick(n uint64) { c.time = After(c.time, n) }

// Rand is a source of bytes that a script chooses.
type Rand struct {
	ready []byte // they come next: the first bytes, and later what is left of a number
	state uint64
}

// NewRand is one that gives some bytes first.
func NewRand(first []byte, seed uint64) *Rand {
	return &Rand{ready: newList(first), state: seed}
}

// Read draws bytes.
func (r *Rand) Read(n int) []byte {
	n = between(n, api.MaxRead)
	out := make([]byte, 0, n)
	for len(out) < n {
		if len(r.ready) == 0 {
			r.ready = bytesOf(r.next())
		}
		k := min(n-len(out), len(r.ready))
		out = append(out, r.ready[:k]...)
		r.ready = cut(r.ready, k, len(r.ready))
	}
	return out
}

// next is the state's next number.
func (r *Rand) next() uint64 {
	r.state += 0x9e3779b97f4a7c15
	z := r.state
	z = (z ^ z>>30) * 0xbf58476d1ce4e5b9
	z = (z ^ z>>27) * 0x94d049bb133111eb
	return z ^ z>>31
}

// bytesOf are a number's bytes, the lowest first.
func bytesOf(z uint64) []byte {
	out := make([]byte, 0, 8)
	for i := range 8 {
		out = append(out, byte(z>>(8*i)))
	}
	return out
}

// Pipe carries bytes one way, past whoever sits between.
//
// Neither of its lists has spare room, and neither is ever written into: what
// is put behind one goes to new memory.
type Pipe struct {
	room    int
	flight  []byte
	arrived []byte
	closed  bool
	broken  bool
}

// NewPipe is one with room for so many bytes.
func NewPipe(room int) (*Pipe, api.Errno) {
	if room < 1 || room > api.MaxPipe {
		return nil, api.ErrArg
	}
	return &Pipe{room: room}, api.OK
}

// Write takes as many bytes as there is room for: how many.
func (p *Pipe) Write(b []byte) int {
	n := min(len(b), p.Room())
	p.flight = join(p.flight, b[:n])
	return n
}

// Close says that nothing comes behind.
func (p *Pipe) Close() { p.closed = true }

// Break breaks it off.
func (p *Pipe) Break() {
	p.broken = true
	p.flight = nil
	p.arrived = nil
}

// Move lets bytes in flight arrive: how many.
func (p *Pipe) Move(n int) int {
	n = between(n, len(p.flight))
	p.arrived = join(p.arrived, p.flight[:n])
	p.flight = cut(p.flight, n, len(p.flight))
	return n
}

// Alter puts other bytes in the place of some that are in flight.
func (p *Pipe) Alter(at int, n int, b []byte) api.Errno {
	have := len(p.flight)
	// A difference, since the sum of at and n might wrap; below 0, where at lies behind all that is there.
	if at < 0 || n < 0 || n > have-at {
		return api.ErrWorldRange
	}
	if p.broken {
		return api.OK
	}
	if len(b) > api.MaxPipe-(have-n) {
		return api.ErrTooMany
	}
	p.flight = join(join(cut(p.flight, 0, at), b), p.flight[at+n:])
	return api.OK
}

// Cut loses what is in flight, and ends it.
func (p *Pipe) Cut() {
	p.flight = nil
	p.closed = true
}

// Read reads bytes that arrived.
func (p *Pipe) Read(n int) ([]byte, api.PipeState) {
	if p.broken {
		return nil, api.PipeBroken
	}
	if p.closed && p.held() == 0 {
		return nil, api.PipeEnded
	}
	n = between(n, len(p.arrived))
	out := newList(p.arrived[:n])
	p.arrived = cut(p.arrived, n, len(p.arrived))
	return out, api.PipeOpen
}

// Flight are the bytes in flight.
func (p *Pipe) Flight() []byte { return newList(p.flight) }

// Arrived is how many bytes arrived and were not read.
func (p *Pipe) Arrived() int { return len(p.arrived) }

// Room is how many bytes may be written.
func (p *Pipe) Room() int {
	if p.closed || p.broken {
		return 0
	}
	// Alter may put more in flight than the room is.
	return max(p.room-p.held(), 0)
}

// held is how many bytes are in flight and arrived.
func (p *Pipe) held() int { return len(p.flight) + len(p.arrived) }

// between is n, or the nearest number of 0 to most.
func between(n int, most int) int { return max(0, min(n, most)) }

// cut is a piece of a list, without spare room: an append to it leaves alone what stands behind it.
func cut(b []byte, from int, to int) []byte {
	if from == to {
		return nil // else the memory of all of b would be kept for nothing
	}
	return b[from:to:to]
}

// join is a list that has no spare room, and another behind it, in new memory and without spare room (a itself, if b is empty).
func join(a []byte, b []byte) []byte {
	out := append(a, b...)
	return cut(out, 0, len(out))
}

// newList are the same bytes in new memory.
func newList(b []byte) []byte { return join(nil, b) }
