package world_test

import (
	"bytes"
	"math"
	"testing"

	"drawbridge/api"
	"drawbridge/world"
)

// newPipe is a pipe of which the first n bytes of what is written have arrived.
func newPipe(t *testing.T, room int, text string, n int) *world.Pipe {
	t.Helper()
	p, e := world.NewPipe(room)
	if p == nil || e != api.OK {
		t.Fatal("no pipe with room for", room, e)
	}
	if p.Write([]byte(text)) != len(text) || p.Move(n) != n {
		t.Fatal("a pipe did not take", text)
	}
	return p
}

// look fails if a pipe has anything else in it.
func look(t *testing.T, p *world.Pipe, what string, arrived int, flight string, room int) {
	t.Helper()
	if p.Arrived() != arrived || string(p.Flight()) != flight || p.Room() != room {
		t.Errorf("%s: %d arrived, in flight %q, room for %d; want %d, %q, %d", what, p.Arrived(), p.Flight(), p.Room(), arrived, flight, room)
	}
}

// reads fails if a Read answers anything else.
func reads(t *testing.T, p *world.Pipe, n int, want string, state api.PipeState) {
	t.Helper()
	if b, s := p.Read(n); string(b) != want || s != state {
		t.Errorf("Read(%d): %q, %d; want %q, %d", n, b, s, want, state)
	}
}

func TestPipeExamples(t *testing.T) {
	p, e := world.NewPipe(4)
	if e != api.OK {
		t.Fatal(e)
	}
	if n := p.Write([]byte("abcdef")); n != 4 {
		t.Error("Write:", n)
	}
	if n := p.Room(); n != 0 {
		t.Error("Room:", n)
	}
	if n := p.Move(1); n != 1 {
		t.Error("Move:", n)
	}
	reads(t, p, 9, "a", api.PipeOpen)
	p.Close()
	p.Cut()
	reads(t, p, 9, "", api.PipeEnded)
}

func TestNewPipe(t *testing.T) {
	for _, room := range []int{math.MinInt, -1, 0, api.MaxPipe + 1, math.MaxInt} {
		if p, e := world.NewPipe(room); p != nil || e != api.ErrArg {
			t.Errorf("room %d: %v, %d", room, p, e)
		}
	}
	for _, room := range []int{1, 2, api.MaxPipe} {
		p := newPipe(t, room, "", 0)
		look(t, p, "a new one", 0, "", room)
		reads(t, p, 9, "", api.PipeOpen)
	}
}

func TestWriteTakesWhatThereIsRoomFor(t *testing.T) {
	p := newPipe(t, 6, "", 0)
	for _, w := range []struct {
		text string
		n    int
		sum  string
	}{{"", 0, ""}, {"ab", 2, "ab"}, {"cde", 3, "abcde"}, {"fgh", 1, "abcdef"}, {"i", 0, "abcdef"}, {"", 0, "abcdef"}} {
		if n := p.Write([]byte(w.text)); n != w.n {
			t.Errorf("Write(%q) = %d", w.text, n)
		}
		look(t, p, "behind "+w.text, 0, w.sum, 6-len(w.sum))
	}
	if p.Write(nil) != 0 {
		t.Error("nil was written")
	}
	p.Move(2)
	look(t, p, "what arrived has its room still", 2, "cdef", 0)
	reads(t, p, 1, "a", api.PipeOpen)
	if n := p.Write([]byte("xy")); n != 1 {
		t.Error("room for the one that was read:", n)
	}
	look(t, p, "full again", 1, "cdefx", 0)
}

func TestPipeOfGreatestRoom(t *testing.T) {
	p := newPipe(t, api.MaxPipe, "", 0)
	text := counted(api.MaxPipe + 3)
	if n := p.Write(text); n != api.MaxPipe || p.Room() != 0 {
		t.Fatal(n, p.Room())
	}
	if n := p.Move(math.MaxInt); n != api.MaxPipe {
		t.Fatal(n)
	}
	if b, s := p.Read(math.MaxInt); !bytes.Equal(b, text[:api.MaxPipe]) || s != api.PipeOpen {
		t.Error("other bytes came")
	}
	look(t, p, "empty again", 0, "", api.MaxPipe)
}

func TestClosedPipe(t *testing.T) {
	p := newPipe(t, 9, "abcde", 2)
	p.Close()
	look(t, p, "closed", 2, "cde", 0)
	if p.Write([]byte("x")) != 0 {
		t.Error("it takes more")
	}
	reads(t, p, 1, "a", api.PipeOpen)
	reads(t, p, 9, "b", api.PipeOpen)
	reads(t, p, 9, "", api.PipeOpen) // three are in flight
	if p.Move(9) != 3 {
		t.Error("they do not come")
	}
	reads(t, p, 0, "", api.PipeOpen)
	reads(t, p, 3, "cde", api.PipeOpen)
	reads(t, p, 3, "", api.PipeEnded)
	reads(t, p, -1, "", api.PipeEnded)
	p.Close()
	look(t, p, "closed twice", 0, "", 0)
}

func TestBrokenPipe(t *testing.T) {
	for _, how := range []func(p *world.Pipe){
		func(p *world.Pipe) { p.Break() },
		func(p *world.Pipe) { p.Close(); p.Break() },
		func(p *world.Pipe) { p.Break(); p.Close() },
		func(p *world.Pipe) { p.Break(); p.Cut() },
		func(p *world.Pipe) { p.Break(); p.Break() },
	} {
		p := newPipe(t, 9, "abcde", 2)
		how(p)
		look(t, p, "broken", 0, "", 0)
		if p.Write([]byte("x")) != 0 || p.Move(9) != 0 {
			t.Error("it still carries")
		}
		if e := p.Alter(0, 0, []byte("xyz")); e != api.OK {
			t.Error("Alter:", e)
		}
		look(t, p, "broken and altered", 0, "", 0)
		reads(t, p, 9, "", api.PipeBroken)
		reads(t, p, -1, "", api.PipeBroken)
	}
}

func TestMove(t *testing.T) {
	p := newPipe(t, 9, "abcde", 0)
	for _, m := range []struct {
		n, want, arrived int
		flight           string
	}{{math.MinInt, 0, 0, "abcde"}, {-1, 0, 0, "abcde"}, {0, 0, 0, "abcde"}, {2, 2, 2, "cde"}, {3, 3, 5, ""}, {1, 0, 5, ""}, {math.MaxInt, 0, 5, ""}} {
		if n := p.Move(m.n); n != m.want {
			t.Errorf("Move(%d) = %d", m.n, n)
		}
		look(t, p, "moved", m.arrived, m.flight, 4)
	}
	p.Write([]byte("fg"))
	if n := p.Move(3); n != 2 {
		t.Error("more than there is:", n)
	}
	reads(t, p, 9, "abcdefg", api.PipeOpen)
}

func TestRead(t *testing.T) {
	p := newPipe(t, 9, "abcdef", 4)
	reads(t, p, math.MinInt, "", api.PipeOpen)
	reads(t, p, -1, "", api.PipeOpen)
	reads(t, p, 0, "", api.PipeOpen)
	look(t, p, "nothing was read", 4, "ef", 3)
	reads(t, p, 3, "abc", api.PipeOpen)
	look(t, p, "three were read", 1, "ef", 6)
	reads(t, p, math.MaxInt, "d", api.PipeOpen)
	reads(t, p, 1, "", api.PipeOpen)
	look(t, p, "all were read", 0, "ef", 7)
}

func TestCut(t *testing.T) {
	p := newPipe(t, 9, "abcde", 2)
	p.Cut()
	look(t, p, "cut", 2, "", 0)
	if p.Write([]byte("x")) != 0 || p.Move(9) != 0 {
		t.Error("it still carries")
	}
	reads(t, p, 1, "a", api.PipeOpen)
	reads(t, p, 1, "b", api.PipeOpen)
	reads(t, p, 1, "", api.PipeEnded)
	p.Cut()
	if e := p.Alter(0, 0, []byte("xy")); e != api.OK {
		t.Error("Alter:", e)
	}
	reads(t, p, 1, "", api.PipeOpen) // two are in flight now
	p.Move(9)
	reads(t, p, 9, "xy", api.PipeOpen)
	reads(t, p, 9, "", api.PipeEnded)
}
