package world_test

import (
	"bytes"
	"encoding/binary"
	"math"
	"testing"

	"drawbridge/api"
	"drawbridge/world"
)

// counted are n bytes that are unlike their neighbours.
func counted(n int) []byte {
	b := make([]byte, n)
	for i := range b {
		b[i] = byte(i*7 + i>>8)
	}
	return b
}

func TestDrawExample(t *testing.T) {
	r := world.NewRand([]byte{1, 2}, 0)
	if got := r.Read(4); !bytes.Equal(got, []byte{1, 2, 0xaf, 0xcd}) {
		t.Errorf("% x", got)
	}
	if got := r.Read(7); !bytes.Equal(got, []byte{0x1d, 0x7b, 0x39, 0xa8, 0x20, 0xe2, 0xf4}) {
		t.Errorf("what is left of a number comes first: % x", got)
	}
}

// The numbers are those that SplitMix64 is published with.
func TestDrawNumbers(t *testing.T) {
	known := []struct {
		seed    uint64
		numbers []uint64
	}{
		{0, []uint64{0xe220a8397b1dcdaf, 0x6e789e6aa1b965f4, 0x06c45d188009454f}},
		{1234567, []uint64{6457827717110365317, 3203168211198807973, 9817491932198370423, 4593380528125082431, 16408922859458223821}},
	}
	for _, k := range known {
		r := world.NewRand(nil, k.seed)
		for i, want := range k.numbers {
			if got := binary.LittleEndian.Uint64(r.Read(8)); got != want {
				t.Errorf("seed %d, number %d: %x, want %x", k.seed, i, got, want)
			}
		}
	}
}

func TestDrawStateWraps(t *testing.T) {
	const step = 0x9e3779b97f4a7c15
	from := world.NewRand(nil, math.MaxUint64).Read(16)
	state := uint64(math.MaxUint64)
	state += step
	if got := world.NewRand(nil, state).Read(8); !bytes.Equal(got, from[8:]) {
		t.Errorf("% x, want % x", got, from[8:])
	}
}

func TestDrawLengths(t *testing.T) {
	lengths := []struct{ n, want int }{
		{math.MinInt, 0}, {-1, 0}, {0, 0}, {1, 1}, {7, 7}, {8, 8}, {9, 9},
		{api.MaxRead - 1, api.MaxRead - 1}, {api.MaxRead, api.MaxRead},
		{api.MaxRead + 1, api.MaxRead}, {math.MaxInt, api.MaxRead},
	}
	for _, first := range [][]byte{nil, {1, 2, 3}, counted(api.MaxRead + 9)} {
		for _, l := range lengths {
			r, s := world.NewRand(first, 3), world.NewRand(first, 3)
			got := r.Read(l.n)
			if len(got) != l.want {
				t.Errorf("Read(%d): %d bytes, want %d", l.n, len(got), l.want)
			}
			s.Read(l.want)
			if !bytes.Equal(r.Read(20), s.Read(20)) {
				t.Errorf("behind Read(%d) comes something else", l.n)
			}
		}
	}
}

func TestDrawFirstBytesFirst(t *testing.T) {
	first := counted(api.MaxRead + 9)
	r := world.NewRand(first, 5)
	if got := r.Read(api.MaxRead); !bytes.Equal(got, first[:api.MaxRead]) {
		t.Error("the first ones are others")
	}
	want := append(bytes.Clone(first[api.MaxRead:]), world.NewRand(nil, 5).Read(5)...)
	if got := r.Read(14); !bytes.Equal(got, want) {
		t.Errorf("% x, want % x", got, want)
	}
}

func TestDrawsInWhateverPieces(t *testing.T) {
	pieces := [][]int{{1}, {2, 3}, {8}, {5, 0, -4, 13}, {7, 9}, {16}, {3, 40, 1}, {200}}
	for _, first := range [][]byte{nil, {9}, counted(8), counted(13), counted(100)} {
		for _, seed := range []uint64{0, 1, 1 << 63, math.MaxUint64} {
			want := world.NewRand(first, seed).Read(300)
			for _, p := range pieces {
				r := world.NewRand(first, seed)
				var got []byte
				for i := 0; len(got) < len(want); i++ {
					got = append(got, r.Read(p[i%len(p)])...)
				}
				if !bytes.Equal(got[:len(want)], want) {
					t.Errorf("seed %d, %d bytes first, pieces %v", seed, len(first), p)
				}
			}
		}
	}
}

func TestSourcesAreApart(t *testing.T) {
	r, s := world.NewRand([]byte("ab"), 1), world.NewRand([]byte("ab"), 1)
	r.Read(50)
	if got := s.Read(2); string(got) != "ab" {
		t.Errorf("another source was drawn from: % x", got)
	}
	if bytes.Equal(world.NewRand(nil, 1).Read(16), world.NewRand(nil, 2).Read(16)) {
		t.Error("two seeds give the same")
	}
}

func TestFirstBytesAreNotKeptOrChanged(t *testing.T) {
	whole := counted(20)
	first := whole[:5]
	want := world.NewRand(counted(5), 2).Read(40)
	r := world.NewRand(first, 2)
	got := r.Read(3)
	whole[3], whole[4], whole[5] = 99, 99, 99
	got = append(got, r.Read(37)...)
	if !bytes.Equal(got, want) {
		t.Errorf("% x, want % x", got, want)
	}
	after := counted(20)
	after[3], after[4], after[5] = 99, 99, 99
	if !bytes.Equal(whole, after) {
		t.Errorf("what was handed in is % x now", whole)
	}
}

// scribble writes over a list that came out, and over its spare room.
func scribble(b []byte) {
	b = b[:cap(b)]
	for i := range b {
		b[i] = 0xee
	}
}

func TestDrawsAreNewMemory(t *testing.T) {
	for _, n := range []int{0, 1, 3, 4, 5, 8, 11, 64} {
		want := world.NewRand([]byte("abcd"), 2).Read(3*n + 8)
		r := world.NewRand([]byte("abcd"), 2)
		a := r.Read(n)
		kept := bytes.Clone(a)
		b := r.Read(n)
		scribble(b)
		if !bytes.Equal(a, kept) {
			t.Errorf("two draws of %d share memory", n)
		}
		scribble(a)
		if got := r.Read(n + 8); !bytes.Equal(got, want[2*n:]) {
			t.Errorf("draws of %d share memory with their source: % x", n, got)
		}
	}
}
