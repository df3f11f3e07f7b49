package chain_test

import (
	"bytes"
	"math/rand"
	"slices"
	"testing"

	"drawbridge/api"
	"drawbridge/chain"
)

// parse is what ParseStaple tells, which must be what the document does.
func parse(t *testing.T, b []byte) (api.Staple, api.Errno) {
	t.Helper()
	got, e := chain.ParseStaple(b)
	want, is := rightStaple(b)
	if is != (e == api.OK) || !is && e != api.ErrStapleForm || !sameStaple(got, want) {
		t.Fatalf("ParseStaple(%x): %+v, %d, want %+v, %v", b, got, e, want, is)
	}
	return got, e
}

func TestParsesWhatIsThere(t *testing.T) {
	for _, c := range []struct {
		p    pieces
		want api.Staple
	}{
		{plain(), plainStaple()}, {turned(), turnedStaple()},
	} {
		if got, e := parse(t, c.p.bytes()); e != api.OK || !sameStaple(got, c.want) {
			t.Errorf("%+v, %d, want %+v", got, e, c.want)
		}
	}
}

// What may be otherwise in a staple is told as it is.
func TestParsesWhatMayBe(t *testing.T) {
	for what, change := range map[string]func(p *pieces, s *api.Staple){
		"not known":              func(p *pieces, s *api.Staple) { p.status, s.Good = []byte{0x82, 0}, false },
		"revoked, nothing said":  func(p *pieces, s *api.Staple) { p.status, s.Good = []byte{0xa1, 0}, false },
		"revoked, with anything": func(p *pieces, s *api.Staple) { p.status, s.Good = put(0xa1, []byte{0x1f, 0x80, 7}), false },
		"a responder that has nothing": func(p *pieces, s *api.Staple) {
			p.responder, s.Responder = []byte{0x30, 0}, []byte{0x30, 0}
		},
		"a responder with anything in it": func(p *pieces, s *api.Staple) {
			p.responder, s.Responder = []byte{0x30, 2, 0x1f, 0x80}, []byte{0x30, 2, 0x1f, 0x80}
		},
		"a long responder": func(p *pieces, s *api.Staple) {
			p.responder = put(0x30, make([]byte, 60000))
			s.Responder = p.responder
		},
		"a serial of 32 bytes": func(p *pieces, s *api.Staple) {
			s.Serial = bytes.Repeat([]byte{255}, 32)
			p.serial = put(2, []byte{0}, s.Serial)
		},
		"a serial of 33 bytes": func(p *pieces, s *api.Staple) {
			s.Serial = bytes.Repeat([]byte{127}, 33)
			p.serial = put(2, s.Serial)
		},
		"the last time": func(p *pieces, s *api.Staple) { p.until, s.Until = put(0x18, text("99991231235959Z")), 253402300799 },
		"it ends ahead of its beginning": func(p *pieces, s *api.Staple) {
			p.until, s.Until = put(0x18, text("19691231235959Z")), -1
		},
		"made behind its end": func(p *pieces, s *api.Staple) { p.made, s.Made = put(0x18, text("20500101000001Z")), 2524608001 },
		"no signature":        func(p *pieces, s *api.Staple) { p.sig, s.Sig = []byte{3, 1, 0}, nil },
		"a short signature":   func(p *pieces, s *api.Staple) { p.sig, s.Sig = []byte{3, 2, 0, 9}, []byte{9} },
		"another kind":        func(p *pieces, s *api.Staple) { p.kind, s.SigKind = nameCurveSig(), api.KeyP256 },
	} {
		p, want := plain(), plainStaple()
		change(&p, &want)
		want.TBS = p.tbs()
		if got, e := parse(t, p.bytes()); e != api.OK || !sameStaple(got, want) {
			t.Errorf("%s: %+v, %d, want %+v", what, got, e, want)
		}
	}
}

// wrongs are changes of one piece, each of which makes it no staple's.
func wrongs() map[string]func(p *pieces) {
	all := map[string]func(p *pieces){
		"the state 1":                 func(p *pieces) { p.state = []byte{0x0a, 1, 1} },
		"no state":                    func(p *pieces) { p.state = []byte{0x0a, 0} },
		"a state of two bytes":        func(p *pieces) { p.state = []byte{0x0a, 2, 0, 0} },
		"a state that is a number":    func(p *pieces) { p.state = []byte{2, 1, 0} },
		"another answer":              func(p *pieces) { p.answer = oid("1.3.6.1.5.5.7.48.1.2") },
		"an answer without a name":    func(p *pieces) { p.answer = nil },
		"no responder":                func(p *pieces) { p.responder = nil },
		"a responder of another tag":  func(p *pieces) { p.responder = put(0x31, text("somebody")) },
		"a responder by its key":      func(p *pieces) { p.responder = put(0x04, make([]byte, 20)) },
		"a responder that is cut off": func(p *pieces) { p.responder = []byte{0x30, 5, 0x31} },
		"another hash":                func(p *pieces) { p.hash = put(0x30, oid("1.3.14.3.2.26")) },
		"a hash with something beside": func(p *pieces) {
			p.hash = put(0x30, oid("2.16.840.1.101.3.4.2.1"), []byte{5, 0})
		},
		"a hash without a name":     func(p *pieces) { p.hash = put(0x30) },
		"a serial below 0":          func(p *pieces) { p.serial = put(2, []byte{0x80}) },
		"a serial with a nought":    func(p *pieces) { p.serial = put(2, []byte{0, 1}) },
		"a serial of nothing":       func(p *pieces) { p.serial = put(2) },
		"a serial of 34 bytes":      func(p *pieces) { p.serial = put(2, bytes.Repeat([]byte{1}, 34)) },
		"no serial":                 func(p *pieces) { p.serial = nil },
		"good, with something":      func(p *pieces) { p.status = []byte{0x80, 1, 0} },
		"not known, with something": func(p *pieces) { p.status = []byte{0x82, 1, 0} },
		"revoked without items":     func(p *pieces) { p.status = []byte{0x81, 0} },
		"another status":            func(p *pieces) { p.status = []byte{0xa0, 0} },
		"a status 83":               func(p *pieces) { p.status = []byte{0x83, 0} },
		"no status":                 func(p *pieces) { p.status = nil },
		"a kind of keys": func(p *pieces) {
			p.kind = put(0x30, oid("1.2.840.10045.2.1"), oid("1.2.840.10045.3.1.7"))
		},
		"RSA":                           func(p *pieces) { p.kind = put(0x30, oid("1.2.840.113549.1.1.11"), []byte{5, 0}) },
		"a kind with something beside":  func(p *pieces) { p.kind = put(0x30, oid("1.3.101.112"), []byte{5, 0}) },
		"no kind":                       func(p *pieces) { p.kind = nil },
		"a kind of nothing":             func(p *pieces) { p.kind = put(0x30) },
		"bits that do not count":        func(p *pieces) { p.sig = put(3, []byte{1}, make([]byte, 64)) },
		"a signature of no bits at all": func(p *pieces) { p.sig = put(3) },
		"a signature that is bytes":     func(p *pieces) { p.sig = put(4, []byte{0}, make([]byte, 64)) },
		"no bits":                       func(p *pieces) { p.sig = nil },
		"no time until when":            func(p *pieces) { p.until = nil },
	}
	for name, where := range map[string]func(p *pieces) *[]byte{
		"nameHash": func(p *pieces) *[]byte { return &p.nameHash },
		"keyHash":  func(p *pieces) *[]byte { return &p.keyHash },
	} {
		for _, n := range []int{0, 20, 31, 33, 64} {
			all[name+" of another length "+string(rune('a'+n))] = func(p *pieces) { *where(p) = put(4, make([]byte, n)) }
		}
		all["a "+name+" of another tag"] = func(p *pieces) { *where(p) = put(3, make([]byte, 32)) }
		all["no "+name] = func(p *pieces) { *where(p) = nil }
	}
	for name, where := range map[string]func(p *pieces) *[]byte{
		"made":  func(p *pieces) *[]byte { return &p.made },
		"from":  func(p *pieces) *[]byte { return &p.from },
		"until": func(p *pieces) *[]byte { return &p.until },
	} {
		for _, digits := range []string{"", "20500101000000", "20500101000000z", "20500101000000+", "20501301000000Z", "20500229000000Z", "00000101000000Z", "20500101240000Z", "20500101000060Z", "20500101000000.0Z", "700101000000Z", "2050010100000 Z"} {
			all[name+" at "+digits] = func(p *pieces) { *where(p) = put(0x18, text(digits)) }
		}
		all[name+" with two digits of the year"] = func(p *pieces) { *where(p) = put(0x17, text("700101000000Z")) }
		all["no "+name] = func(p *pieces) { *where(p) = nil }
	}
	for name, where := range map[string]func(p *pieces) *[]byte{
		"the whole's": func(p *pieces) *[]byte { return &p.inWhole }, "the answer's": func(p *pieces) *[]byte { return &p.inAnswer },
		"the octets'": func(p *pieces) *[]byte { return &p.inOctets }, "B's": func(p *pieces) *[]byte { return &p.inB },
		"the responder's": func(p *pieces) *[]byte { return &p.inResponder }, "the TBS's": func(p *pieces) *[]byte { return &p.inTBS },
		"all answers'": func(p *pieces) *[]byte { return &p.inAll }, "the answer about one's": func(p *pieces) *[]byte { return &p.inSingle },
		"whom it is about": func(p *pieces) *[]byte { return &p.inAbout }, "until's": func(p *pieces) *[]byte { return &p.inUntil },
		"a0's": func(p *pieces) *[]byte { return &p.inExplicit }, "the end": func(p *pieces) *[]byte { return &p.behind },
	} {
		for _, more := range [][]byte{{0}, {5, 0}, {0x30, 0}, {0xa0, 0}, {0xa1, 0}, put(0x18, text("20500101000000Z"))} {
			all["behind "+name+" "+string(more)] = func(p *pieces) { *where(p) = more }
		}
	}
	return all
}

func TestRefusesWhatMayNotBe(t *testing.T) {
	for _, b := range [][]byte{nil, {}, {0x30}, {0x30, 0}, {0x1f, 0}, {0x30, 0x80, 0, 0}, {0x30, 3, 0x0a, 1, 0}} {
		if s, e := parse(t, b); e != api.ErrStapleForm || !sameStaple(s, api.Staple{}) {
			t.Errorf("%x: %d", b, e)
		}
	}
	for _, right := range []pieces{plain(), turned()} {
		for what, change := range wrongs() {
			p := right
			change(&p)
			if _, e := parse(t, p.bytes()); e != api.ErrStapleForm {
				t.Errorf("%s: %d", what, e)
			}
		}
	}
}

// Version, extensions, certificates, two answers: what others' answers may have, a staple has not.
func TestRefusesWhatOthersHave(t *testing.T) {
	p := plain()
	tbs := p.tbs()[3:]
	for what, b := range map[string][]byte{
		"a version":     put(0x30, put(0xa0, put(2, []byte{0})), tbs),
		"extensions":    put(0x30, tbs, put(0xa1, put(0x30))),
		"another order": put(0x30, p.made, put(0xa1, p.responder)),
	} {
		whole := put(0x30, p.state, put(0xa0, put(0x30, p.answer, put(4, put(0x30, b, p.kind, p.sig)))))
		if _, e := parse(t, whole); e != api.ErrStapleForm {
			t.Error(what, e)
		}
	}
}

// Each byte otherwise, each end too early: the same as the document tells.
func TestEachByteOtherwise(t *testing.T) {
	for _, p := range []pieces{plain(), turned()} {
		b := p.bytes()
		for at := range b {
			if _, e := parse(t, b[:at]); e != api.ErrStapleForm {
				t.Error("cut off", at)
			}
			for more := 1; more < 256; more++ {
				c := bytes.Clone(b)
				c[at] ^= byte(more)
				parse(t, c)
			}
		}
	}
}

// Whatever stands behind, however much, it is not a staple's.
func TestMuchBehind(t *testing.T) {
	b := plain().bytes()
	for _, n := range []int{1, 65536, 1 << 20} {
		if _, e := chain.ParseStaple(append(bytes.Clone(b), make([]byte, n)...)); e != api.ErrStapleForm {
			t.Error(n, e)
		}
		if _, e := chain.ParseStaple(bytes.Repeat(b, 2+n/100)); e != api.ErrStapleForm {
			t.Error(n, e)
		}
	}
}

// What comes out is new memory, and what is handed in is not changed.
func TestMemoryOfParse(t *testing.T) {
	for _, p := range []pieces{plain(), turned()} {
		b := append(make([]byte, 0, 1000), p.bytes()...)
		s, e := parse(t, b)
		want := twinStaple(s)
		if e != api.OK || !bytes.Equal(b, p.bytes()) || !unused([]*[]byte{&b}) {
			t.Error("what was handed in is not as it was")
		}
		all := b[:cap(b)]
		for i := range all {
			all[i] = 0xee
		}
		if !sameStaple(s, want) {
			t.Error("it shares what was handed in")
		}
		apart(t, s)
	}
}

// apart: filling one list, and its spare room, does not change another.
func apart(t *testing.T, s api.Staple) {
	t.Helper()
	for i := range lists(&s) {
		want := twinStaple(s)
		list := *lists(&s)[i]
		for at := range list[:cap(list)] {
			list[:cap(list)][at] ^= 0x55
		}
		for j, other := range lists(&s) {
			if i != j && !bytes.Equal(*other, *lists(&want)[j]) {
				t.Error("two lists share memory", i, j)
			}
		}
	}
}

// node is an item of a tree, so that whatever changes, the lengths about it stay right.
type node struct {
	tag  byte
	head []byte  // ahead of the rest of its body
	body []byte  // unless it has kids
	kids []*node // the items that its body is
}

// isList: is a body items, in the staples that are made into trees?
func isList(tag byte, body []byte) bool {
	return slices.Contains([]byte{0x30, 0xa0, 0xa1}, tag) || tag == 4 && len(body) != 32
}

// grow is the tree of a staple's items.
func grow(b []byte) []*node {
	var all []*node
	for len(b) > 0 {
		n, head := int(b[1]), 2
		switch n {
		case 0x81:
			n, head = int(b[2]), 3
		case 0x82:
			n, head = int(b[2])<<8|int(b[3]), 4
		}
		x := &node{tag: b[0]}
		if body := b[head : head+n]; isList(x.tag, body) {
			x.kids = grow(body)
		} else {
			x.body = body
		}
		all, b = append(all, x), b[head+n:]
	}
	return all
}

// write is a tree's bytes.
func write(all []*node) []byte {
	var b []byte
	for _, x := range all {
		b = append(b, put(x.tag, x.head, x.body, write(x.kids))...)
	}
	return b
}

// twin is a tree alike, of nodes of its own.
func twin(x *node) *node {
	y := &node{tag: x.tag, head: bytes.Clone(x.head), body: bytes.Clone(x.body)}
	for _, kid := range x.kids {
		y.kids = append(y.kids, twin(kid))
	}
	return y
}

// place is where a node stands.
type place struct {
	list *[]*node
	at   int
}

func (p place) node() *node { return (*p.list)[p.at] }

// walk are the places of all nodes.
func walk(all *[]*node) []place {
	var places []place
	for i, x := range *all {
		places = append(append(places, place{all, i}), walk(&x.kids)...)
	}
	return places
}

// alter changes something of a tree.
func alter(r *rand.Rand, all *[]*node) {
	places := walk(all)
	if len(places) == 0 {
		return
	}
	at, other := places[r.Intn(len(places))], places[r.Intn(len(places))]
	x, y := at.node(), twin(other.node())
	switch r.Intn(8) {
	case 0:
		*at.list = slices.Delete(slices.Clone(*at.list), at.at, at.at+1)
	case 1:
		*at.list = slices.Insert(slices.Clone(*at.list), at.at, y)
	case 2:
		(*at.list)[at.at] = y
	case 3:
		x.tag = []byte{2, 3, 4, 6, 0x0a, 0x17, 0x18, 0x30, 0x80, 0x82, 0xa0, 0xa1, 0x1f}[r.Intn(13)]
	case 4:
		x.head = append(x.head, byte(r.Intn(256)))
	case 5:
		x.kids, x.body = nil, nil
	case 6:
		if len(x.body) > 0 {
			x.body[r.Intn(len(x.body))] = []byte{0, 1, 2, '0', '9', 127, 128, 255}[r.Intn(8)]
		}
	case 7:
		if len(x.body) > 0 {
			x.body = x.body[:r.Intn(len(x.body))]
		}
	}
}

// One change or some, anywhere in the items.
func TestChangedTrees(t *testing.T) {
	r := rand.New(rand.NewSource(2))
	met := map[api.Errno]int{}
	for _, p := range []pieces{plain(), turned()} {
		p.responder = put(0x30, put(0x31, put(0x30, oid("2.5.4.3"))))
		p.status = []byte{p.status[0], 0}
		b := p.bytes()
		if !bytes.Equal(write(grow(b)), b) {
			t.Fatal("the tree is not as the staple was")
		}
		for range 20000 {
			root := &node{kids: grow(bytes.Clone(b))}
			for range 1 + r.Intn(2) {
				alter(r, &root.kids)
			}
			_, e := parse(t, write(root.kids))
			met[e]++
		}
	}
	if met[api.OK] < 1000 || met[api.ErrStapleForm] < 1000 {
		t.Error("hardly met:", met)
	}
}
