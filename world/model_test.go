package world_test

import (
	"bytes"
	"go/parser"
	"go/token"
	"math"
	"math/rand"
	"path/filepath"
	"strings"
	"testing"

	"drawbridge/api"
	"drawbridge/world"
)

// model is a pipe as the document tells it, with texts for its lists.
type model struct {
	room            int
	flight, arrived string
	closed, broken  bool
}

func (m *model) Room() int {
	left := m.room - len(m.flight) - len(m.arrived)
	if m.closed || m.broken || left < 0 {
		return 0
	}
	return left
}

func (m *model) Write(b []byte) int {
	n := min(len(b), m.Room())
	m.flight += string(b[:n])
	return n
}

func (m *model) Move(n int) int {
	n = max(min(n, len(m.flight)), 0)
	m.arrived += m.flight[:n]
	m.flight = m.flight[n:]
	return n
}

func (m *model) Alter(at int, n int, b []byte) api.Errno {
	switch {
	case at < 0 || n < 0 || at > len(m.flight) || n > len(m.flight[at:]):
		return api.ErrWorldRange
	case m.broken:
		return api.OK
	case len(m.flight)-n+len(b) > api.MaxPipe:
		return api.ErrTooMany
	}
	m.flight = m.flight[:at] + string(b) + m.flight[at+n:]
	return api.OK
}

func (m *model) Read(n int) ([]byte, api.PipeState) {
	switch {
	case m.broken:
		return nil, api.PipeBroken
	case m.closed && m.flight+m.arrived == "":
		return nil, api.PipeEnded
	}
	n = max(min(n, len(m.arrived)), 0)
	b := []byte(m.arrived[:n])
	m.arrived = m.arrived[n:]
	return b, api.PipeOpen
}

// step does the same to both, and says what each of them answered.
func step(r *rand.Rand, p *world.Pipe, m *model) (what string, same bool) {
	n := r.Intn(14) - 2
	b := counted(r.Intn(200))
	r.Shuffle(len(b), func(i, j int) { b[i], b[j] = b[j], b[i] })
	switch r.Intn(40) {
	case 0:
		p.Close()
		m.closed = true
		return "Close", true
	case 1:
		p.Cut()
		m.closed, m.flight = true, ""
		return "Cut", true
	case 2:
		if r.Intn(3) != 0 {
			return "nothing", true
		}
		p.Break()
		m.broken, m.flight, m.arrived = true, "", ""
		return "Break", true
	case 3, 4, 5, 6, 7:
		at := r.Intn(8) - 1
		return "Alter", p.Alter(at, n, b) == m.Alter(at, n, b)
	case 8, 9, 10, 11, 12, 13, 14, 15, 16, 17, 18, 19:
		got, s := p.Read(n)
		want, z := m.Read(n)
		return "Read", bytes.Equal(got, want) && s == z
	case 20, 21, 22, 23, 24, 25, 26, 27, 28, 29:
		return "Move", p.Move(n) == m.Move(n)
	}
	b = b[:len(b)%11]
	return "Write", p.Write(b) == m.Write(b)
}

func TestPipeIsAsTheModel(t *testing.T) {
	r := rand.New(rand.NewSource(1))
	for range 2000 {
		room := 1 + r.Intn(40)
		p := newPipe(t, room, "", 0)
		m := &model{room: room}
		for range 60 {
			what, same := step(r, p, m)
			if !same || string(p.Flight()) != m.flight || p.Arrived() != len(m.arrived) || p.Room() != m.Room() {
				t.Fatalf("behind %s: %d arrived, in flight %q, room for %d; the model: %+v", what, p.Arrived(), p.Flight(), p.Room(), *m)
			}
		}
	}
}

// As long as nobody alters, cuts or breaks, nothing is lost, and nothing changes its place.
func TestPipeKeepsTheOrder(t *testing.T) {
	r := rand.New(rand.NewSource(2))
	for range 500 {
		p := newPipe(t, 1+r.Intn(50), "", 0)
		var wrote, read []byte
		for i := range 200 {
			b := counted(300)[i : i+r.Intn(20)]
			wrote = append(wrote, b[:p.Write(b)]...)
			p.Move(r.Intn(15) - 1)
			if r.Intn(150) == 0 {
				p.Close()
			}
			b, _ = p.Read(r.Intn(15) - 1)
			read = append(read, b...)
			from := len(read) + p.Arrived()
			if !bytes.HasPrefix(wrote, read) || from > len(wrote) || !bytes.Equal(wrote[from:], p.Flight()) {
				t.Fatalf("wrote %x, read %x, %d arrived, in flight %x", wrote, read, p.Arrived(), p.Flight())
			}
		}
		p.Move(99)
		b, _ := p.Read(99)
		if !bytes.Equal(append(read, b...), wrote) {
			t.Fatal("not all came")
		}
	}
}

func TestPipesAreApart(t *testing.T) {
	p, q := newPipe(t, 9, "abc", 1), newPipe(t, 9, "abc", 1)
	p.Write([]byte("d"))
	p.Break()
	look(t, q, "the other one", 1, "bc", 6)
	reads(t, q, 9, "a", api.PipeOpen)
}

// brinks are arguments at which a sum or a length might go wrong.
func brinks() []int {
	return []int{math.MinInt, math.MinInt + 1, -2, -1, 0, 1, 2, 3, 4, api.MaxPipe, api.MaxPipe + 1, math.MaxInt - 1, math.MaxInt}
}

// Every call ends, at whatever it is given, of pipes in whatever state.
func TestNothingPanics(t *testing.T) {
	states := []func(p *world.Pipe){
		func(p *world.Pipe) {},
		func(p *world.Pipe) { p.Close() },
		func(p *world.Pipe) { p.Cut() },
		func(p *world.Pipe) { p.Break() },
		func(p *world.Pipe) { p.Alter(0, 0, counted(api.MaxPipe-3)) },
	}
	for _, state := range states {
		for _, n := range brinks() {
			for _, at := range brinks() {
				p := newPipe(t, 9, "abcde", 2)
				state(p)
				p.Alter(at, n, []byte("xy"))
				p.Alter(at, n, nil)
				p.Write(nil)
				p.Move(n)
				p.Read(at)
				p.Read(n)
				if p.Room() < 0 || p.Arrived() < 0 || len(p.Flight()) > api.MaxPipe {
					t.Errorf("Alter(%d, %d): room for %d, %d arrived", at, n, p.Room(), p.Arrived())
				}
			}
		}
	}
	for _, n := range brinks() {
		world.NewPipe(n)
		world.NewRand(nil, uint64(n)).Read(n)
	}
}

// Layer 1 stands on package api alone.
func TestStandsOnApiAlone(t *testing.T) {
	names, err := filepath.Glob("*.go")
	if err != nil {
		t.Fatal(err)
	}
	for _, name := range names {
		if strings.HasSuffix(name, "_test.go") {
			continue
		}
		f, err := parser.ParseFile(token.NewFileSet(), name, nil, parser.ImportsOnly)
		if err != nil {
			t.Fatal(err)
		}
		for _, i := range f.Imports {
			if i.Path.Value != `"drawbridge/api"` {
				t.Errorf("%s imports %s", name, i.Path.Value)
			}
		}
	}
}
