package cert_test

import (
	"bytes"
	"math/rand"
	"slices"
	"testing"

	"drawbridge/api"
	"drawbridge/cert"
)

// node is an item of a tree, so that whatever changes, the lengths about it stay right.
type node struct {
	tag  byte
	head []byte  // ahead of the rest of its body
	body []byte  // unless it has kids
	kids []*node // the items that its body is
}

// isList: are the bodies of a tag items, in the certificates that are made into trees?
func isList(tag byte) bool { return slices.Contains([]byte{0x04, 0x30, 0x31, 0xa0, 0xa3}, tag) }

// grow is the tree of a certificate's items.
func grow(b []byte) []*node {
	var all []*node
	for len(b) > 0 {
		n, head := int(b[1]), 2
		switch n {
		case 0x81:
			n, head = int(b[2]), 3
		case 0x82:
			n, head = int(b[2])<<8|int(b[3]), 4
		}
		x := &node{tag: b[0]}
		if body := b[head : head+n]; isList(x.tag) {
			x.kids = grow(body)
		} else {
			x.body = body
		}
		all, b = append(all, x), b[head+n:]
	}
	return all
}

// write is a tree's bytes.
func write(all []*node) []byte {
	var b []byte
	for _, x := range all {
		b = append(b, put(x.tag, x.head, x.body, write(x.kids))...)
	}
	return b
}

// twin is a tree alike, of nodes of its own.
func twin(x *node) *node {
	y := &node{tag: x.tag, head: bytes.Clone(x.head), body: bytes.Clone(x.body)}
	for _, kid := range x.kids {
		y.kids = append(y.kids, twin(kid))
	}
	return y
}

// place is where a node stands.
type place struct {
	list *[]*node
	at   int
}

func (p place) node() *node { return (*p.list)[p.at] }

// walk are the places of all nodes.
func walk(all *[]*node) []place {
	var places []place
	for i, x := range *all {
		places = append(append(places, place{all, i}), walk(&x.kids)...)
	}
	return places
}

// alter changes something of a tree.
func alter(r *rand.Rand, all *[]*node) {
	places := walk(all)
	if len(places) == 0 {
		return
	}
	at, other := places[r.Intn(len(places))], places[r.Intn(len(places))]
	x, y := at.node(), twin(other.node())
	switch r.Intn(8) {
	case 0:
		*at.list = slices.Delete(slices.Clone(*at.list), at.at, at.at+1)
	case 1:
		*at.list = slices.Insert(slices.Clone(*at.list), at.at, y)
	case 2:
		(*at.list)[at.at] = y
	case 3:
		x.tag = []byte{1, 2, 3, 4, 6, 0x17, 0x18, 0x30, 0x82, 0xa0, 0xa3, 0x1f}[r.Intn(12)]
	case 4:
		x.head = append(x.head, byte(r.Intn(256)))
	case 5:
		x.kids, x.body = nil, nil
	case 6:
		if len(x.body) > 0 {
			x.body[r.Intn(len(x.body))] = []byte{0, 1, 2, '0', '9', 127, 128, 255}[r.Intn(8)]
		}
	case 7:
		if len(x.body) > 0 {
			x.body = x.body[:r.Intn(len(x.body))]
		}
	}
}

// trees are certificates whose every item of the tags that are lists is one.
func trees() []pieces {
	p := plain().withExts(
		marked("2.5.29.19", put(0x30, yes(), put(2, []byte{3}))),
		marked("2.5.29.15", put(3, []byte{2, 0x84})),
		extension("2.5.29.37", put(0x30, oid("1.3.6.1.5.5.7.3.1"))),
		extension("2.5.29.14", put(4)),
		extension("2.5.29.17", hosts("a.b")),
	)
	q := turned()
	p.issuer, q.issuer = cert.Name("issuer"), cert.Name("issuer")
	return []pieces{p, q}
}

// One change or some, anywhere: the first error that is met is the one that the document asks for.
func TestChangedTrees(t *testing.T) {
	r := rand.New(rand.NewSource(2))
	met := map[api.Errno]int{}
	for _, p := range trees() {
		b := p.bytes()
		if !bytes.Equal(write(grow(b)), b) {
			t.Fatal("the tree is not as the certificate was")
		}
		for range 20000 {
			root := &node{kids: grow(bytes.Clone(b))}
			for range 1 + r.Intn(3) {
				alter(r, &root.kids)
			}
			_, e := parse(t, write(root.kids))
			met[e]++
		}
	}
	for _, e := range []api.Errno{api.OK, api.ErrCertForm, api.ErrCertAlg, api.ErrCertExt, api.ErrCertTime} {
		if met[e] < 400 {
			t.Error("hardly met:", e, met[e])
		}
	}
}
