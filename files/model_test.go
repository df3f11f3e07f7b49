package files_test

import (
	"go/parser"
	"go/token"
	"math"
	"math/rand"
	"path/filepath"
	"slices"
	"strings"
	"testing"

	"drawbridge/api"
	"drawbridge/files"
)

// paper is a file as the document tells it.
type paper struct {
	name       string
	old, fresh string
	written    int
	torn       bool
}

// model is a store as the document tells it: its files in a list.
type model struct {
	papers []*paper
}

func (m *model) find(name string) *paper {
	for _, p := range m.papers {
		if p.name == name {
			return p
		}
	}
	return nil
}

// mayNot is what Put and Tear refuse first.
func (m *model) mayNot(name string, b string) api.Errno {
	switch {
	case name == "" || len(name) > 32 || strings.Trim(name, letters) != "":
		return api.ErrFilesName
	case len(b) > 65536:
		return api.ErrFilesLong
	case m.find(name) == nil && len(m.papers) == 64:
		return api.ErrFilesFull
	}
	return api.OK
}

// own is the file of a name, made if it is not there.
func (m *model) own(name string) *paper {
	p := m.find(name)
	if p == nil {
		p = &paper{name: name}
		m.papers = append(m.papers, p)
	}
	return p
}

func (m *model) Put(name string, b string) api.Errno {
	if e := m.mayNot(name, b); e != api.OK {
		return e
	}
	*m.own(name) = paper{name: name, old: b}
	return api.OK
}

func (m *model) Tear(name string, b string, n int) api.Errno {
	p := m.find(name)
	switch e := m.mayNot(name, b); {
	case e != api.OK:
		return e
	case p != nil && p.torn:
		return api.ErrFilesTorn
	case n < 0 || n > len(b):
		return api.ErrArg
	}
	p = m.own(name)
	p.torn, p.fresh, p.written = true, b, n
	return api.OK
}

func (m *model) Settle(name string) api.Errno {
	p := m.find(name)
	switch {
	case p == nil:
		return api.ErrFilesNone
	case !p.torn:
		return api.ErrFilesTorn
	}
	*p = paper{name: name, old: p.fresh}
	return api.OK
}

func (m *model) Remove(name string) api.Errno {
	i := slices.IndexFunc(m.papers, func(p *paper) bool { return p.name == name })
	if i < 0 {
		return api.ErrFilesNone
	}
	m.papers = slices.Delete(m.papers, i, i+1)
	return api.OK
}

func (m *model) Names() []string {
	var out []string
	for _, p := range m.papers {
		out = append(out, p.name)
	}
	slices.Sort(out)
	return out
}

// at is a file's byte at a place, if it has so many.
func (p *paper) at(i int) (byte, bool) {
	switch {
	case p.torn && i < p.written:
		return p.fresh[i], true
	case i < len(p.old):
		return p.old[i], true
	}
	return 0, false
}

// bytes is what is read of it.
func (p *paper) bytes() string {
	var out []byte
	for i := 0; ; i++ {
		b, more := p.at(i)
		if !more {
			return string(out)
		}
		out = append(out, b)
	}
}

// step does the same to both, and tells what each of them answered.
func step(r *rand.Rand, s *files.Store, m *model, pool []string) (what string, got api.Errno, want api.Errno) {
	name := pool[r.Intn(len(pool))]
	b := make([]byte, r.Intn(9))
	for i := range b {
		b[i] = byte(r.Intn(256))
	}
	n := r.Intn(len(b)+3) - 1
	switch r.Intn(8) {
	case 0, 1, 2:
		return "Put " + name, s.Put(name, b), m.Put(name, string(b))
	case 3, 4, 5:
		return "Tear " + name, s.Tear(name, b, n), m.Tear(name, string(b), n)
	case 6:
		return "Settle " + name, s.Settle(name), m.Settle(name)
	}
	return "Remove " + name, s.Remove(name), m.Remove(name)
}

// same: both have the same files, and the names of the pool tell the same.
func same(t *testing.T, what string, s *files.Store, m *model, pool []string) {
	t.Helper()
	if got, want := s.Names(), m.Names(); !slices.Equal(got, want) {
		t.Fatalf("behind %s names are %q, want %q", what, got, want)
	}
	for _, name := range pool {
		p := m.find(name)
		b, e := s.Read(name)
		if p == nil {
			if len(b) != 0 || e != api.ErrFilesNone || s.Torn(name) {
				t.Fatalf("behind %s, %q, which is not there, is %q (error %d)", what, name, b, e)
			}
			continue
		}
		if string(b) != p.bytes() || e != api.OK || s.Torn(name) != p.torn {
			t.Fatalf("behind %s, %s is %q (error %d, torn %t), want %+v", what, name, b, e, s.Torn(name), *p)
		}
	}
}

func TestStoreIsAsTheModel(t *testing.T) {
	few := []string{"a", "b", "a.key", "A", ""}
	many := slices.Clone(few)
	for i := range 75 {
		many = append(many, letters[i%10:i%10+1]+letters[i/10:i/10+1]+"-f")
	}
	r := rand.New(rand.NewSource(1))
	for _, pool := range [][]string{few, many} {
		for range 100 {
			s, m := files.New(), &model{}
			for range 500 {
				what, got, want := step(r, s, m, pool)
				if got != want {
					t.Fatalf("%s: error %d, want %d", what, got, want)
				}
				same(t, what, s, m, pool[max(0, len(pool)-8):])
			}
			same(t, "all", s, m, pool)
		}
	}
}

// Every call ends, at whatever it is given, of files in whatever state.
func TestNothingPanics(t *testing.T) {
	brinks := []int{math.MinInt, math.MinInt + 1, -2, -1, 0, 1, 2, 3, api.MaxFile, api.MaxFile + 1, math.MaxInt - 1, math.MaxInt}
	lists := [][]byte{nil, {}, []byte("ab"), counted(api.MaxFile), counted(api.MaxFile + 1)}
	for _, s := range []*files.Store{files.New(), full(t)} {
		for _, name := range append(badNames(), "a", "f0", "f1") {
			for _, b := range lists {
				for _, n := range brinks {
					s.Tear(name, b, n)
					s.Torn(name)
					s.Read(name)
				}
				s.Settle(name)
				s.Read(name)
				s.Put(name, b)
				s.Read(name)
			}
			s.Remove(name)
		}
		if len(s.Names()) > api.MaxFiles {
			t.Error("too many files:", len(s.Names()))
		}
	}
}

// Layer 2 stands on package api alone.
func TestStandsOnApiAlone(t *testing.T) {
	sources, err := filepath.Glob("*.go")
	if err != nil {
		t.Fatal(err)
	}
	for _, name := range sources {
		if strings.HasSuffix(name, "_test.go") {
			continue
		}
		f, err := parser.ParseFile(token.NewFileSet(), name, nil, parser.ImportsOnly)
		if err != nil {
			t.Fatal(err)
		}
		for _, i := range f.Imports {
			if i.Path.Value != `"drawbridge/api"` && i.Path.Value != `"slices"` {
				t.Errorf("%s imports %s", name, i.Path.Value)
			}
		}
	}
}
