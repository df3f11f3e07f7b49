package world_test

import (
	"bytes"
	"math"
	"testing"

	"drawbridge/api"
	"drawbridge/world"
)

func TestAlter(t *testing.T) {
	for _, a := range []struct {
		at, n  int
		b      string
		flight string
	}{
		{0, 0, "", "cdef"},
		{0, 0, "X", "Xcdef"},
		{4, 0, "X", "cdefX"},
		{2, 0, "XY", "cdXYef"},
		{1, 1, "X", "cXef"},
		{0, 2, "", "ef"},
		{2, 2, "", "cd"},
		{1, 2, "", "cf"},
		{0, 4, "", ""},
		{0, 4, "XYZ", "XYZ"},
		{3, 1, "XYZ", "cdeXYZ"},
		{1, 2, "VWXYZ", "cVWXYZf"},
	} {
		p := newPipe(t, 9, "abcdef", 2)
		if e := p.Alter(a.at, a.n, []byte(a.b)); e != api.OK {
			t.Errorf("Alter(%d, %d, %q): %d", a.at, a.n, a.b, e)
		}
		look(t, p, "altered", 2, a.flight, max(7-len(a.flight), 0))
		p.Move(9)
		reads(t, p, 99, "ab"+a.flight, api.PipeOpen)
	}
}

func TestAlterOutOfRange(t *testing.T) {
	for _, a := range []struct{ at, n int }{
		{-1, 0}, {0, -1}, {-1, -1}, {-1, 2}, {5, 0}, {5, -1}, {0, 5}, {4, 1}, {3, 2}, {2, 3},
		{math.MinInt, 0}, {0, math.MinInt}, {math.MinInt, math.MinInt}, {math.MinInt, math.MaxInt},
		{math.MaxInt, 0}, {0, math.MaxInt}, {1, math.MaxInt}, {math.MaxInt, 1}, {math.MaxInt, math.MaxInt},
	} {
		p := newPipe(t, 9, "abcdef", 2)
		if e := p.Alter(a.at, a.n, []byte("XY")); e != api.ErrWorldRange {
			t.Errorf("Alter(%d, %d): %d", a.at, a.n, e)
		}
		look(t, p, "an error changes nothing", 2, "cdef", 3)
		reads(t, p, 9, "ab", api.PipeOpen)
	}
}

func TestAlterMayGoBeyondTheRoom(t *testing.T) {
	p := newPipe(t, 4, "abcd", 1)
	if e := p.Alter(3, 0, counted(api.MaxPipe-3)); e != api.OK {
		t.Fatal(e)
	}
	if p.Room() != 0 || p.Write([]byte("x")) != 0 || len(p.Flight()) != api.MaxPipe {
		t.Error("room for", p.Room())
	}
	if p.Move(api.MaxPipe) != api.MaxPipe || p.Arrived() != api.MaxPipe+1 {
		t.Error("arrived:", p.Arrived())
	}
	if p.Room() != 0 {
		t.Error("room for", p.Room())
	}
	if b, s := p.Read(math.MaxInt); !bytes.Equal(b, append([]byte("abcd"), counted(api.MaxPipe-3)...)) || s != api.PipeOpen {
		t.Error("other bytes came")
	}
	look(t, p, "all were read", 0, "", 4)
}

func TestAlterTooMuch(t *testing.T) {
	p := newPipe(t, 9, "abcdef", 2)
	full := counted(api.MaxPipe)
	if e := p.Alter(0, 3, full); e != api.ErrTooMany { // one is left beside them
		t.Error("one too many:", e)
	}
	look(t, p, "an error changes nothing", 2, "cdef", 3)
	if e := p.Alter(0, 4, full); e != api.OK { // what arrived is not counted
		t.Error("just as many:", e)
	}
	if !bytes.Equal(p.Flight(), full) || p.Arrived() != 2 {
		t.Error("other bytes are in flight")
	}
	for _, a := range []struct {
		at, n int
		b     []byte
		want  api.Errno
	}{
		{0, 0, []byte("x"), api.ErrTooMany},
		{api.MaxPipe, 0, []byte("x"), api.ErrTooMany},
		{5, 1, []byte("xy"), api.ErrTooMany},
		{api.MaxPipe, 0, nil, api.OK},
		{0, 0, counted(api.MaxPipe * 2), api.ErrTooMany},
	} {
		if e := p.Alter(a.at, a.n, a.b); e != a.want || !bytes.Equal(p.Flight(), full) {
			t.Errorf("Alter(%d, %d) of %d bytes: %d, want %d", a.at, a.n, len(a.b), e, a.want)
		}
	}
}

// What the words name first is answered: no such bytes, then a pipe that is broken, then too many.
func TestAlterErrorsInOrder(t *testing.T) {
	much := counted(api.MaxPipe + 1)
	open, broken := newPipe(t, 9, "abc", 0), newPipe(t, 9, "abc", 0)
	broken.Break()
	for _, a := range []struct {
		name  string
		p     *world.Pipe
		at, n int
		want  api.Errno
	}{
		{"open, no such bytes, too many", open, 0, 4, api.ErrWorldRange},
		{"open, too many", open, 0, 3, api.ErrTooMany},
		{"broken, no such bytes, too many", broken, 0, 1, api.ErrWorldRange},
		{"broken, no such place", broken, 1, 0, api.ErrWorldRange},
		{"broken, below 0", broken, -1, 0, api.ErrWorldRange},
		{"broken, too many", broken, 0, 0, api.OK},
	} {
		if e := a.p.Alter(a.at, a.n, much); e != a.want {
			t.Errorf("%s: %d, want %d", a.name, e, a.want)
		}
	}
	look(t, open, "open", 0, "abc", 6)
	look(t, broken, "broken", 0, "", 0)
}

func TestAlterAClosedPipe(t *testing.T) {
	p := newPipe(t, 9, "abc", 1)
	p.Close()
	if e := p.Alter(1, 1, []byte("XYZ")); e != api.OK {
		t.Error(e)
	}
	look(t, p, "closed and altered", 1, "bXYZ", 0)
	p.Move(9)
	reads(t, p, 9, "abXYZ", api.PipeOpen)
	reads(t, p, 9, "", api.PipeEnded)
}
