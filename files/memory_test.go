package files_test

import (
	"testing"

	"drawbridge/api"
	"drawbridge/files"
)

// lent is a list with spare room, and the whole memory behind it.
func lent(text string) (list []byte, whole []byte) {
	whole = append([]byte(text), "spare room"...)
	return whole[:len(text)], whole
}

// scribble writes over a list, and over its spare room.
func scribble(b []byte) {
	b = b[:cap(b)]
	for i := range b {
		b[i] = '#'
	}
}

// read is a file's bytes.
func read(t *testing.T, s *files.Store, name string) []byte {
	t.Helper()
	b, e := s.Read(name)
	ok(t, e)
	return b
}

func TestKeepsNoListThatIsHandedIn(t *testing.T) {
	s := files.New()
	b, whole := lent("abcdef")
	ok(t, s.Put("a", b))
	c, other := lent("UVWXY")
	ok(t, s.Tear("a", c, 2))
	d, third := lent("pqr")
	ok(t, s.Tear("b", d, 2))
	look(t, s, "a", "UVcdef", true)
	look(t, s, "b", "pq", true)
	if string(whole) != "abcdefspare room" || string(other) != "UVWXYspare room" || string(third) != "pqrspare room" {
		t.Errorf("what was handed in is %q, %q and %q now", whole, other, third)
	}
	scribble(b)
	scribble(c)
	scribble(d)
	look(t, s, "a", "UVcdef", true)
	look(t, s, "b", "pq", true)
	ok(t, s.Settle("a"))
	ok(t, s.Settle("b"))
	look(t, s, "a", "UVWXY", false)
	look(t, s, "b", "pqr", false)
}

// A list that a call refused is changed as little as one that it took.
func TestChangesNoListThatIsRefused(t *testing.T) {
	s := full(t)
	b, whole := lent("abc")
	wants(t, "full", s.Put("g", b), api.ErrFilesFull)
	wants(t, "full", s.Tear("g", b, 1), api.ErrFilesFull)
	wants(t, "torn", s.Tear("f1", b, 1), api.ErrFilesTorn)
	wants(t, "out of range", s.Tear("f2", b, 4), api.ErrArg)
	if string(whole) != "abcspare room" {
		t.Errorf("what was handed in is %q now", whole)
	}
}

func TestGivesNewMemory(t *testing.T) {
	for n := range 6 {
		s := files.New()
		ok(t, s.Put("a", []byte("abcd")))
		scribble(read(t, s, "a"))
		look(t, s, "a", "abcd", false)
		before := read(t, s, "a")
		ok(t, s.Tear("a", []byte("VWXYZ"), n))
		want := ("VWXYZ"[:n] + "abcd"[min(n, 4):])
		scribble(read(t, s, "a"))
		look(t, s, "a", want, true)
		torn := read(t, s, "a")
		scribble(read(t, s, "a")) // two answers share nothing either
		ok(t, s.Settle("a"))
		look(t, s, "a", "VWXYZ", false)
		settled := read(t, s, "a")
		scribble(read(t, s, "a"))
		look(t, s, "a", "VWXYZ", false)
		ok(t, s.Put("a", []byte("1234567")))
		if string(before) != "abcd" || string(torn) != want || string(settled) != "VWXYZ" {
			t.Errorf("what came out is %q, %q and %q now", before, torn, settled)
		}
	}
}

func TestNamesGiveNewMemory(t *testing.T) {
	s := files.New()
	ok(t, s.Put("a", []byte("abc")))
	ok(t, s.Put("b", []byte("def")))
	got := s.Names()
	got[0], got[1] = "x", "y"
	_ = append(got, "z")
	names(t, s, "a", "b")
	other := s.Names()
	ok(t, s.Put("0", nil))
	ok(t, s.Remove("a"))
	names(t, s, "0", "b")
	if other[0] != "a" || other[1] != "b" {
		t.Errorf("what came out is %q now", other)
	}
	look(t, s, "b", "def", false)
}
