package der_test

import (
	"bytes"
	"math"
	"math/rand"
	"reflect"
	"slices"
	"testing"

	"drawbridge/api"
	"drawbridge/der"
)

// spoil writes into all memory of a list, to see that nobody else has it.
func spoil(b []byte) {
	b = b[:cap(b)]
	for i := range b {
		b[i] ^= 0xff
	}
}

// texts calls f with all texts of at most n of these bytes.
func texts(letters []byte, n int, f func(b []byte)) {
	var grow func(b []byte)
	grow = func(b []byte) {
		f(b)
		if len(b) == n {
			return
		}
		for _, c := range letters {
			grow(append(b[:len(b):len(b)], c))
		}
	}
	grow(nil)
}

// itemLetters are bytes with which every step of an item goes every way.
var itemLetters = []byte{0x00, 0x01, 0x02, 0x1f, 0x30, 0x7f, 0x80, 0x81, 0x82, 0x83, 0xff}

// rightNext is Next step by step as the document tells it.
func rightNext(b []byte, at int) (api.Item, api.Errno) {
	if at < 0 || at >= len(b) {
		return api.Item{}, api.ErrDerShort
	}
	tag := b[at]
	switch tag {
	case 0x1f, 0x3f, 0x5f, 0x7f, 0x9f, 0xbf, 0xdf, 0xff:
		return api.Item{}, api.ErrDerTag
	}
	b = b[at+1:]
	if len(b) == 0 {
		return api.Item{}, api.ErrDerShort
	}
	n, head := int(b[0]), 2
	if n == 0x80 || n > 0x82 {
		return api.Item{}, api.ErrDerLength
	}
	if n == 0x81 {
		if len(b) < 2 {
			return api.Item{}, api.ErrDerShort
		}
		n, head = int(b[1]), 3
		if n < 128 {
			return api.Item{}, api.ErrDerLength
		}
	} else if n == 0x82 {
		if len(b) < 3 {
			return api.Item{}, api.ErrDerShort
		}
		n, head = 256*int(b[1])+int(b[2]), 4
		if n < 256 {
			return api.Item{}, api.ErrDerLength
		}
	}
	b = b[head-1:]
	if len(b) < n {
		return api.Item{}, api.ErrDerShort
	}
	return api.Item{Tag: tag, Body: b[:n], At: at, Len: head + n}, api.OK
}

// sameItem: an empty body may be nil or not.
func sameItem(a, b api.Item) bool {
	return a.Tag == b.Tag && bytes.Equal(a.Body, b.Body) && a.At == b.At && a.Len == b.Len
}

// next is what Next tells, which must be what the document says; with an error it is nothing.
func next(t *testing.T, b []byte, at int) (api.Item, api.Errno) {
	t.Helper()
	got, e := der.Next(b, at)
	want, wantE := rightNext(b, at)
	if !sameItem(got, want) || e != wantE {
		t.Fatalf("Next(%x, %d): %v, %d, want %v, %d", b, at, got, e, want, wantE)
	}
	return got, e
}

func TestExamplesOfItems(t *testing.T) {
	b := []byte{0x30, 3, 2, 1, 5}
	if x, e := der.Next(b, 0); e != api.OK || !sameItem(x, api.Item{Tag: 0x30, Body: []byte{2, 1, 5}, Len: 5}) {
		t.Error(x, e)
	}
	if x, e := der.Next(b, 2); e != api.OK || !sameItem(x, api.Item{Tag: 2, Body: []byte{5}, At: 2, Len: 3}) {
		t.Error(x, e)
	}
	for _, c := range []struct {
		b    []byte
		want api.Errno
	}{
		{[]byte{0x30, 0x81, 3, 1, 2, 3}, api.ErrDerLength},
		{[]byte{0x1f, 0}, api.ErrDerTag},
		{[]byte{0x30, 5, 0}, api.ErrDerShort},
	} {
		if x, e := der.Next(c.b, 0); e != c.want || !reflect.ValueOf(x).IsZero() {
			t.Error(c.b, x, e)
		}
	}
}

// TestWhichErrorComesFirst: where several apply it is the first that R1 names.
func TestWhichErrorComesFirst(t *testing.T) {
	for _, c := range []struct {
		what string
		b    []byte
		at   int
		want api.Errno
	}{
		{"nothing", nil, 0, api.ErrDerShort},
		{"behind the end", []byte{0x1f}, 1, api.ErrDerShort},
		{"ahead of the beginning", []byte{0x1f}, -1, api.ErrDerShort},
		{"a tag alone that may not be", []byte{0x1f}, 0, api.ErrDerTag},
		{"and a length that may not be", []byte{0xff, 0x80}, 0, api.ErrDerTag},
		{"a tag alone", []byte{0x30}, 0, api.ErrDerShort},
		{"a length without an end", []byte{0x30, 0x80}, 0, api.ErrDerLength},
		{"three bytes of a length", []byte{0x30, 0x83}, 0, api.ErrDerLength},
		{"and so many that none may be", []byte{0x30, 0xff}, 0, api.ErrDerLength},
		{"an end within the length", []byte{0x30, 0x81}, 0, api.ErrDerShort},
		{"within the longer length", []byte{0x30, 0x82}, 0, api.ErrDerShort},
		{"behind a nought of it", []byte{0x30, 0x82, 0}, 0, api.ErrDerShort},
		{"a length that fits one byte", []byte{0x30, 0x81, 0x7f}, 0, api.ErrDerLength},
		{"a length that fits two", []byte{0x30, 0x82, 0, 0xff}, 0, api.ErrDerLength},
		{"a length that fits one, in three", []byte{0x30, 0x82, 0, 0}, 0, api.ErrDerLength},
		{"no body", []byte{0x30, 1}, 0, api.ErrDerShort},
		{"no body of 128", []byte{0x30, 0x81, 0x80}, 0, api.ErrDerShort},
		{"no body of 256", []byte{0x30, 0x82, 1, 0}, 0, api.ErrDerShort},
	} {
		if x, e := der.Next(c.b, c.at); e != c.want || !reflect.ValueOf(x).IsZero() {
			t.Errorf("%s: %v, %d, want %d", c.what, x, e, c.want)
		}
	}
}

// TestNextOfAllShortTexts: each is told as the document says, written again as it was, and is the beginning of no other.
func TestNextOfAllShortTexts(t *testing.T) {
	texts(itemLetters, 5, func(b []byte) {
		for at := -2; at <= len(b)+1; at++ {
			x, e := next(t, b, at)
			if e != api.OK {
				continue
			}
			whole := b[at : at+x.Len]
			if again := der.Put(x.Tag, x.Body); !bytes.Equal(again, whole) {
				t.Fatalf("%x is written again as %x", whole, again)
			}
			for n := range x.Len {
				if y, e := der.Next(whole[:n], 0); e != api.ErrDerShort {
					t.Fatalf("%x is an item, and its beginning %x: %v, %d", whole, whole[:n], y, e)
				}
			}
		}
	})
}

// TestNextAtAnyPlace: no place makes it panic.
func TestNextAtAnyPlace(t *testing.T) {
	b := der.Put(0x30, []byte{2, 1, 5})
	for _, at := range []int{math.MinInt, math.MinInt + 1, -1 << 32, -5, -1, 5, 6, 1 << 32, math.MaxInt - 1, math.MaxInt} {
		next(t, b, at)
		next(t, nil, at)
	}
}

// TestNextOfDrawnBytes: with long lengths, and ends all about the body's.
func TestNextOfDrawnBytes(t *testing.T) {
	r := rand.New(rand.NewSource(1))
	for range 20000 {
		b := make([]byte, r.Intn(700))
		r.Read(b)
		if len(b) > 4 {
			n := len(b) - 5 + r.Intn(4)
			copy(b, [][]byte{{4, 0x81, byte(n)}, {4, 0x82, byte(n >> 8), byte(n)}, {4, byte(n)}}[r.Intn(3)])
		}
		next(t, b, 0)
		next(t, b, r.Intn(9)-1)
	}
}

// TestEveryTag: five bits that are all set may not be, in Next and in Put.
func TestEveryTag(t *testing.T) {
	for tag := range 256 {
		b := der.Put(byte(tag), []byte("ab"))
		if tag%32 == 31 {
			if len(b) != 0 {
				t.Errorf("Put(%x): %x", tag, b)
			}
			if x, e := der.Next([]byte{byte(tag), 0}, 0); e != api.ErrDerTag || !reflect.ValueOf(x).IsZero() {
				t.Errorf("Next of the tag %x: %v, %d", tag, x, e)
			}
			continue
		}
		if want := []byte{byte(tag), 2, 'a', 'b'}; !bytes.Equal(b, want) {
			t.Errorf("Put(%x): %x", tag, b)
		}
		if x, e := der.Next(b, 0); e != api.OK || x.Tag != byte(tag) {
			t.Errorf("Next of the tag %x: %v, %d", tag, x, e)
		}
	}
}

// head is a tag and a length, as the document has them.
func head(tag byte, n int) []byte {
	if n < 128 {
		return []byte{tag, byte(n)}
	}
	if n <= 255 {
		return []byte{tag, 0x81, byte(n)}
	}
	return []byte{tag, 0x82, byte(n / 256), byte(n % 256)}
}

// lengths are those of bodies: all that are short, the edges, and some of the others.
func lengths() []int {
	var all []int
	for n := range 1100 {
		all = append(all, n)
	}
	for n := 1100; n < 65535; n += 509 {
		all = append(all, n)
	}
	return append(all, 32767, 32768, 65279, 65280, 65534, 65535)
}

func TestEveryLength(t *testing.T) {
	r := rand.New(rand.NewSource(2))
	whole := make([]byte, 65536)
	r.Read(whole)
	for _, n := range lengths() {
		want := slices.Concat(head(4, n), whole[:n])
		b := der.Put(4, whole[:n])
		if !bytes.Equal(b, want) {
			t.Fatalf("Put of %d bytes: %x ..", n, b[:min(len(b), 8)])
		}
		x, e := der.Next(slices.Concat([]byte{9}, b, []byte{9, 9}), 1)
		if e != api.OK || !sameItem(x, api.Item{Tag: 4, Body: whole[:n], At: 1, Len: len(b)}) {
			t.Fatalf("Next of %d bytes: %d at %d, %d in all, %d", n, len(x.Body), x.At, x.Len, e)
		}
		for _, short := range []int{0, 1, 2, 3, len(b) - 1} {
			next(t, b[:min(short, len(b)-1)], 0)
		}
	}
}

func TestPutOfTooMany(t *testing.T) {
	whole := make([]byte, 70000)
	for _, parts := range [][][]byte{
		{whole[:65536]}, {whole}, {whole[:65535], {1}}, {{1}, whole[:65535]}, {whole[:32768], nil, whole[:32768]}, slices.Repeat([][]byte{whole}, 1000),
	} {
		if b := der.Put(4, parts...); len(b) != 0 {
			t.Errorf("%d bytes and more: %d", len(parts[0]), len(b))
		}
	}
	if b := der.Put(31, whole); len(b) != 0 {
		t.Error("a tag that may not be, and too many bytes")
	}
}

// TestParts: how a body is cut into parts doesn't count.
func TestParts(t *testing.T) {
	if b := der.Put(5); !bytes.Equal(b, []byte{5, 0}) {
		t.Errorf("no parts: %x", b)
	}
	if b := der.Put(5, nil, []byte{}, nil); !bytes.Equal(b, []byte{5, 0}) {
		t.Errorf("empty parts: %x", b)
	}
	r := rand.New(rand.NewSource(3))
	for _, n := range []int{0, 1, 5, 127, 128, 255, 256, 4000, 65535} {
		body := make([]byte, n)
		r.Read(body)
		for range 20 {
			var parts [][]byte
			for rest := body; len(rest) > 0 || r.Intn(2) == 0; {
				k := r.Intn(len(rest) + 1)
				parts = append(parts, rest[:k])
				rest = rest[k:]
			}
			if b := der.Put(0xa3, parts...); !bytes.Equal(b, slices.Concat(head(0xa3, n), body)) {
				t.Fatalf("%d bytes in %d parts: %x", n, len(parts), b)
			}
		}
	}
}

// rightItems are Items by the document's Next.
func rightItems(b []byte) ([]api.Item, int, api.Errno) {
	var all []api.Item
	for at := 0; at != len(b); {
		x, e := rightNext(b, at)
		if e != api.OK {
			return nil, at, e
		}
		all = append(all, x)
		at += x.Len
	}
	return all, 0, api.OK
}

func items(t *testing.T, b []byte) []api.Item {
	t.Helper()
	got, at, e := der.Items(b)
	want, wantAt, wantE := rightItems(b)
	if !slices.EqualFunc(got, want, sameItem) || at != wantAt || e != wantE {
		t.Fatalf("Items(%x): %v, %d, %d, want %v, %d, %d", b, got, at, e, want, wantAt, wantE)
	}
	return got
}

func TestItems(t *testing.T) {
	for _, c := range []struct {
		b    []byte
		tags []byte
		at   int
		want api.Errno
	}{
		{nil, nil, 0, api.OK},
		{[]byte{}, nil, 0, api.OK},
		{[]byte{5, 0}, []byte{5}, 0, api.OK},
		{[]byte{5, 0, 2, 1, 7, 0x30, 0}, []byte{5, 2, 0x30}, 0, api.OK},
		{[]byte{0x1f}, nil, 0, api.ErrDerTag},
		{[]byte{5, 0, 0x1f, 0}, nil, 2, api.ErrDerTag},
		{[]byte{5, 0, 2, 1, 7, 0x30}, nil, 5, api.ErrDerShort},
		{[]byte{5, 0, 2, 1, 7, 0x30, 1}, nil, 5, api.ErrDerShort},
		{[]byte{5, 0, 2, 1, 7, 0x30, 0x80}, nil, 5, api.ErrDerLength},
		{[]byte{5, 0, 0x30, 0x81, 1, 1, 0x1f}, nil, 2, api.ErrDerLength},
	} {
		got, at, e := der.Items(c.b)
		var tags []byte
		for _, x := range got {
			tags = append(tags, x.Tag)
		}
		if !bytes.Equal(tags, c.tags) || at != c.at || e != c.want {
			t.Errorf("%x: %v, %d, %d", c.b, got, at, e)
		}
	}
}

func TestItemsOfAllShortTexts(t *testing.T) {
	texts(itemLetters, 5, func(b []byte) { items(t, b) })
}

// TestItemsThatWereWritten: they come out as they were put in, and cut off they are wrong where the last one begins.
func TestItemsThatWereWritten(t *testing.T) {
	r := rand.New(rand.NewSource(4))
	for range 300 {
		var b []byte
		var ends []int
		for range r.Intn(8) {
			body := make([]byte, []int{0, 1, 20, 127, 128, 255, 256, 300}[r.Intn(8)])
			r.Read(body)
			b = append(b, der.Put(byte(r.Intn(31)|r.Intn(8)<<5), body)...)
			ends = append(ends, len(b))
		}
		if got := items(t, b); len(got) != len(ends) {
			t.Fatalf("%x: %d items, want %d", b, len(got), len(ends))
		}
		var again []byte
		for _, x := range items(t, b) {
			again = append(again, der.Put(x.Tag, x.Body)...)
		}
		if !bytes.Equal(again, b) {
			t.Fatalf("%x is written again as %x", b, again)
		}
		if len(b) > 0 {
			items(t, b[:r.Intn(len(b))])
		}
	}
}

// TestManyItems: as many as fit, each with its place.
func TestManyItems(t *testing.T) {
	b := bytes.Repeat([]byte{5, 0}, 100000)
	got, at, e := der.Items(b)
	if len(got) != 100000 || at != 0 || e != api.OK || got[99999].At != 199998 {
		t.Error(len(got), at, e)
	}
	got, at, e = der.Items(append(b, 31))
	if len(got) != 0 || at != 200000 || e != api.ErrDerTag {
		t.Error(len(got), at, e)
	}
}

// TestItemsAreNew: what comes out shares no memory with what was handed in, nor with one another.
func TestItemsAreNew(t *testing.T) {
	b := slices.Concat(der.Put(4, []byte("abc")), der.Put(4, []byte("defg")), der.Put(5), []byte{9, 9, 9})
	kept := bytes.Clone(b)
	x, _ := der.Next(b, 0)
	all, _, _ := der.Items(b[:13])
	if !bytes.Equal(b, kept) {
		t.Fatal("what was handed in is changed")
	}
	clear(b)
	if string(x.Body) != "abc" || len(all) != 3 || string(all[0].Body) != "abc" || string(all[1].Body) != "defg" {
		t.Fatal("what was handed in is kept")
	}
	b = bytes.Clone(kept)
	x, _ = der.Next(b, 0)
	all, _, _ = der.Items(b[:13])
	spoil(x.Body)
	spoil(all[0].Body)
	spoil(all[2].Body)
	if !bytes.Equal(b, kept) || string(all[1].Body) != "defg" {
		t.Error("what comes out shares memory")
	}
}

// TestPutIsNew: of one part too, and the parts stay as they were.
func TestPutIsNew(t *testing.T) {
	whole := []byte("abcdef")
	b := der.Put(4, whole[:2], whole[:2])
	spoil(b)
	b = der.Put(4, whole[:3])
	spoil(b)
	if string(whole) != "abcdef" {
		t.Errorf("what was handed in is %q now", whole)
	}
	b = der.Put(4, whole)
	clear(whole)
	if string(b) != "\x04\x06abcdef" {
		t.Errorf("what was written is %q now", b)
	}
}
