package wire_test

import (
	"bytes"
	"math/rand"
	"reflect"
	"testing"

	"drawbridge/api"
)

// rule is how bytes stand, as the document's tables tell it: bytes of a fixed length (n), a list (size) of bytes or of parts, or one rule behind the other (row).
type rule struct {
	n           int
	size        int
	least, most int
	part        *rule
	row         []rule
}

const anyMany = 1 << 30

func fixed(n int) rule { return rule{n: n} }

// octets are a list of bytes, parts one of others.
func octets(size, least, most int) rule { return rule{size: size, least: least, most: most} }

func parts(size, least, most int, part rule) rule {
	return rule{size: size, least: least, most: most, part: &part}
}

func row(all ...rule) rule { return rule{row: all} }

// tree is what bytes are, by a rule.
type tree struct {
	b    []byte
	kids []tree
}

// read is the tree with which bytes begin, and what stands behind it.
func (x rule) read(b []byte) (t tree, rest []byte, is bool) {
	switch {
	case x.row != nil:
		for _, y := range x.row {
			kid, behind, is := y.read(b)
			if !is {
				return tree{}, nil, false
			}
			t.kids, b = append(t.kids, kid), behind
		}
		return t, b, true
	case x.size > 0:
		return x.readList(b)
	case len(b) < x.n:
		return tree{}, nil, false
	}
	return tree{b: b[:x.n]}, b[x.n:], true
}

func (x rule) readList(b []byte) (t tree, rest []byte, is bool) {
	if len(b) < x.size {
		return tree{}, nil, false
	}
	n := int(whole(b[:x.size]))
	if b = b[x.size:]; len(b) < n {
		return tree{}, nil, false
	}
	body, rest := b[:n], b[n:]
	if x.part == nil {
		return tree{b: body}, rest, n >= x.least && n <= x.most
	}
	for len(body) > 0 {
		kid, behind, is := x.part.read(body)
		if !is {
			return tree{}, nil, false
		}
		t.kids, body = append(t.kids, kid), behind
	}
	return t, rest, len(t.kids) >= x.least && len(t.kids) <= x.most
}

// whole is a number, with the highest byte first.
func whole(b []byte) uint64 {
	n := uint64(0)
	for _, c := range b {
		n = n*256 + uint64(c)
	}
	return n
}

// kind is one of the bodies, or of the extensions' data.
type kind[T any] struct {
	called  string
	rule    rule
	fits    func(t tree) bool // is what one list has as long as another one says?
	right   func(t tree) bool // has it what must stand, and nothing twice?
	value   func(t tree) T
	get     func(b []byte) (T, api.Alert)
	put     func(v T) []byte
	samples []T
	draw    func(r *rand.Rand) T // which may be one that can't be put
	may     func(v T) bool
}

// one is a kind, whatever it is of.
type one interface {
	name() string
	wants(t *testing.T, b []byte) api.Alert
	bodies(t *testing.T) [][]byte
	drawn(t *testing.T, r *rand.Rand) (b []byte, may bool)
}

func (k kind[T]) name() string { return k.called }

// told is what the document says of bytes.
func (k kind[T]) told(b []byte) (v T, a api.Alert) {
	t, rest, is := k.rule.read(b)
	switch {
	case !is || len(rest) > 0 || k.fits != nil && !k.fits(t):
		return v, api.AlertDecode
	case k.right != nil && !k.right(t):
		return v, api.AlertIllegal
	}
	return k.value(t), api.AlertNone
}

// wants is what Get says of bytes, which must be what the document does; and Put must write them again.
func (k kind[T]) wants(t *testing.T, b []byte) api.Alert {
	t.Helper()
	kept := bytes.Clone(b)
	got, a := k.get(b)
	want, alert := k.told(b)
	if a != alert || !same(got, want) {
		t.Fatalf("%s of %x: %+v, %d, want %+v, %d", k.called, b, got, a, want, alert)
	}
	if !bytes.Equal(b, kept) {
		t.Fatalf("%s of %x: it is %x now", k.called, kept, b)
	}
	if again := k.put(got); a == api.AlertNone && !bytes.Equal(again, b) {
		t.Fatalf("%s of %x: put again it is %x", k.called, b, again)
	}
	return a
}

// bodies are the samples' bytes.
func (k kind[T]) bodies(t *testing.T) [][]byte {
	t.Helper()
	var all [][]byte
	for _, v := range k.samples {
		b := k.put(v)
		if got, a := k.get(b); a != api.AlertNone || !same(got, v) || k.wants(t, b) != api.AlertNone {
			t.Fatalf("%s: %+v, %d, want %+v", k.called, got, a, v)
		}
		all = append(all, b)
	}
	return all
}

// drawn are the bytes of a value that is drawn, if it has some: those that the document tells of.
func (k kind[T]) drawn(t *testing.T, r *rand.Rand) (b []byte, may bool) {
	t.Helper()
	v := k.draw(r)
	if b = k.put(v); !k.may(v) {
		if len(b) != 0 {
			t.Fatalf("%s: %+v can't be put, but is %x", k.called, v, b)
		}
		return nil, false
	}
	if got, a := k.get(b); a != api.AlertNone || !same(got, v) || k.wants(t, b) != api.AlertNone {
		t.Fatalf("%s: %+v is %x, which is %+v, %d", k.called, v, b, got, a)
	}
	return b, true
}

// each asks all kinds at once.
func each(t *testing.T, ask func(t *testing.T, k one)) {
	for _, k := range all() {
		t.Run(k.name(), func(t *testing.T) {
			t.Parallel()
			ask(t, k)
		})
	}
}

// same: an empty list may be nil or not.
func same(a, b any) bool { return alike(reflect.ValueOf(a), reflect.ValueOf(b)) }

func alike(a, b reflect.Value) bool {
	switch a.Kind() {
	case reflect.Struct:
		for i := range a.NumField() {
			if !alike(a.Field(i), b.Field(i)) {
				return false
			}
		}
		return true
	case reflect.Slice, reflect.Array:
		if a.Kind() == reflect.Slice && a.Type().Elem().Kind() == reflect.Uint8 {
			return bytes.Equal(a.Bytes(), b.Bytes())
		}
		if a.Len() != b.Len() {
			return false
		}
		for i := range a.Len() {
			if !alike(a.Index(i), b.Index(i)) {
				return false
			}
		}
		return true
	}
	return a.Equal(b)
}
