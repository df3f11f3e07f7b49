package world_test

import (
	"bytes"
	"testing"

	"drawbridge/api"
	"drawbridge/world"
)

// lent is a list with spare room, and the whole memory behind it.
func lent(text string) (list []byte, whole []byte) {
	whole = append([]byte(text), "spare room"...)
	return whole[:len(text)], whole
}

func TestPipeKeepsNoListThatIsHandedIn(t *testing.T) {
	p := newPipe(t, 20, "", 0)
	for _, text := range []string{"abcd", "ef", "g"} {
		b, whole := lent(text)
		p.Write(b)
		if string(whole) != text+"spare room" {
			t.Errorf("what was written is %q now", whole)
		}
		scribble(b)
	}
	look(t, p, "written", 0, "abcdefg", 13)
	for _, at := range []int{0, 2, 6} {
		p := newPipe(t, 20, "abcdef", 0)
		b, whole := lent("XY")
		if e := p.Alter(at, 0, b); e != api.OK {
			t.Fatal(e)
		}
		p.Write([]byte("gh"))
		if string(whole) != "XYspare room" {
			t.Errorf("what was put in is %q now", whole)
		}
		scribble(b)
		look(t, p, "altered", 0, "abcdef"[:at]+"XY"+"abcdef"[at:]+"gh", 10)
	}
}

func TestPipeGivesNewMemory(t *testing.T) {
	for n := range 6 {
		p := newPipe(t, 20, "abcdefgh", 5)
		flight := p.Flight()
		scribble(flight)
		look(t, p, "in flight", 5, "fgh", 12)
		a, _ := p.Read(n)
		scribble(a)
		look(t, p, "read", 5-n, "fgh", 12+n)
		other := p.Flight()
		p.Write([]byte("ij"))
		p.Move(1)
		if string(other) != "fgh" {
			t.Errorf("what came out is %q now", other)
		}
		p.Move(9)
		b, _ := p.Read(99)
		if string(b) != "abcdefghij"[n:] {
			t.Errorf("%d were read, and then %q", n, b)
		}
		kept := bytes.Clone(b)
		p.Write([]byte("klmnopqr"))
		p.Move(9)
		if c, _ := p.Read(99); !bytes.Equal(b, kept) || string(c) != "klmnopqr" {
			t.Errorf("%q, and then %q", b, c)
		}
	}
}

// What arrives is put behind what arrived, and not over what is still in flight; nor do two pipes write over each other.
func TestPipeHasNoSpareRoomOfAnother(t *testing.T) {
	p := newPipe(t, 20, "abcdefgh", 3)
	p.Move(2)
	look(t, p, "moved", 5, "fgh", 12)
	p, _ = world.NewPipe(20)
	p.Write([]byte("abcdefghi"))
	q := *p
	q.Write([]byte("XY"))
	p.Write([]byte("jk"))
	p.Move(5)
	look(t, &q, "one of them", 0, "abcdefghiXY", 9)
	look(t, p, "the other one", 5, "fghijk", 9)
	if e := p.Alter(1, 1, nil); e != api.OK {
		t.Fatal(e)
	}
	p.Cut()
	if e := p.Alter(0, 0, []byte("kl")); e != api.OK {
		t.Fatal(e)
	}
	look(t, &q, "one of them", 0, "abcdefghiXY", 9)
	p.Move(1)
	reads(t, p, 9, "abcdek", api.PipeOpen)
}
