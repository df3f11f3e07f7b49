package sched_test

import (
	"bytes"
	"math"
	"math/rand"
	"strings"
	"testing"

	"drawbridge/api"
	"drawbridge/sched"
)

// expands: Expand answers what the library makes.
func expands(t *testing.T, h api.Hash, secret []byte, label string, context []byte, n int) {
	t.Helper()
	got, e := sched.Expand(h, secret, label, context, n)
	if e != api.OK {
		t.Fatalf("hash %d, label of %d bytes, context of %d, to %d: %v", h, len(label), len(context), n, e)
	}
	want(t, "Expand", got, expanded(h, secret, label, context, n))
}

// refuses: Expand answers an error and nothing else.
func refuses(t *testing.T, h api.Hash, label string, context []byte, n int) {
	t.Helper()
	if got, e := sched.Expand(h, []byte("secret"), label, context, n); e != api.ErrSchedLabel || len(got) != 0 {
		t.Fatalf("hash %d, label of %d bytes, context of %d, to %d: %d bytes, %v", h, len(label), len(context), n, len(got), e)
	}
}

func TestExpandExample(t *testing.T) {
	refuses(t, api.SHA256, strings.Repeat("a", 250), nil, 1)
}

func TestExpand(t *testing.T) {
	r := rand.New(rand.NewSource(1))
	for range 3000 {
		h := hashes[r.Intn(3)]
		expands(t, h, some(r), text(r, r.Intn(30)), some(r)[:0], r.Intn(200))
		expands(t, h, some(r), text(r, r.Intn(250)), random(r, r.Intn(256)), r.Intn(200))
	}
}

func TestLengthsOfLabels(t *testing.T) {
	r := rand.New(rand.NewSource(2))
	for n := range 400 {
		for _, h := range hashes {
			label := text(r, n)
			if n > 249 {
				refuses(t, h, label, nil, 1)
				continue
			}
			expands(t, h, some(r), label, random(r, 32), 32)
		}
	}
	refuses(t, api.SHA256, strings.Repeat("a", 256-6), nil, 1)
	refuses(t, api.SHA256, strings.Repeat("a", 256), nil, 1)
	refuses(t, api.SHA256, strings.Repeat("a", 1<<16), nil, 1)
	// Bytes count, not runes.
	expands(t, api.SHA256, nil, strings.Repeat("\u00e4", 124)+"b", nil, 20)
	refuses(t, api.SHA256, strings.Repeat("\u00e4", 125), nil, 20)
}

func TestLengthsOfContexts(t *testing.T) {
	r := rand.New(rand.NewSource(3))
	for n := range 400 {
		for _, h := range hashes {
			context := random(r, n)
			if n > 255 {
				refuses(t, h, "a", context, 1)
				continue
			}
			expands(t, h, some(r), "label", context, 32)
		}
	}
	refuses(t, api.SHA256, "a", make([]byte, 512), 1)
	refuses(t, api.SHA256, "a", make([]byte, 1<<16), 1)
}

func TestLengthsOfWhatIsExpanded(t *testing.T) {
	for _, h := range hashes {
		most := 255 * size(h)
		for _, n := range []int{0, 1, 31, 32, 33, 47, 48, 49, 63, 64, 65, 255, 256, 257, 4096, most - 1, most} {
			expands(t, h, []byte("secret"), "label", []byte("context"), n)
		}
		for _, n := range []int{most + 1, most + 256, 65535, 65536, 65537, 1 << 32, 1<<32 + 1, math.MaxInt, -1, -2, -65535, -65536, math.MinInt} {
			refuses(t, h, "label", []byte("context"), n)
		}
	}
}

// TestLengthIsAPart: unlike in mac, what is expanded to fewer bytes is no beginning of what is expanded to more.
func TestLengthIsAPart(t *testing.T) {
	few, _ := sched.Expand(api.SHA256, []byte("secret"), "label", nil, 16)
	more, _ := sched.Expand(api.SHA256, []byte("secret"), "label", nil, 32)
	if bytes.Equal(few, more[:16]) {
		t.Error("the length has no part in it")
	}
}

// TestWhereALabelEnds: neither the label's end nor the context's may be moved.
func TestWhereALabelEnds(t *testing.T) {
	one, _ := sched.Expand(api.SHA256, []byte("secret"), "ab", []byte("c"), 32)
	for _, c := range []struct{ label, context string }{{"a", "bc"}, {"abc", ""}, {"ab\x01c", ""}, {"", "abc"}, {"ab", "c\x00"}} {
		other, e := sched.Expand(api.SHA256, []byte("secret"), c.label, []byte(c.context), 32)
		if e != api.OK || bytes.Equal(one, other) {
			t.Error(c, e)
		}
	}
}

func TestExpandOfNoHash(t *testing.T) {
	for _, h := range noHashes {
		for _, n := range []int{-1, 0, 1, 32} {
			refuses(t, h, "label", nil, n)
		}
		refuses(t, h, strings.Repeat("a", 250), make([]byte, 256), 32)
		if b := sched.Derive(h, []byte("secret"), "label", nil); len(b) != 0 {
			t.Errorf("Derive of hash %d: %x", h, b)
		}
	}
}

func TestDerive(t *testing.T) {
	r := rand.New(rand.NewSource(4))
	for range 2000 {
		h, secret, label, sum := hashes[r.Intn(3)], some(r), text(r, r.Intn(250)), random(r, r.Intn(256))
		want(t, "Derive", sched.Derive(h, secret, label, sum), derived(h, secret, label, sum))
	}
	for _, h := range hashes {
		for _, c := range []struct{ label, sum int }{{249, 255}, {249, 0}, {0, 255}, {0, 0}} {
			label, sum := text(r, c.label), random(r, c.sum)
			want(t, "Derive", sched.Derive(h, []byte("secret"), label, sum), derived(h, []byte("secret"), label, sum))
		}
		for _, c := range []struct{ label, sum int }{{250, 0}, {0, 256}, {250, 256}, {256, 32}, {5, 512}, {1 << 16, 1 << 16}} {
			if b := sched.Derive(h, []byte("secret"), text(r, c.label), random(r, c.sum)); len(b) != 0 {
				t.Errorf("hash %d, label of %d bytes, sum of %d: %x", h, c.label, c.sum, b)
			}
		}
	}
}
