package cert_test

import (
	"bytes"
	"crypto/ecdsa"
	"crypto/elliptic"
	"crypto/rand"
	"crypto/rsa"
	"crypto/x509"
	"crypto/x509/pkix"
	"encoding/asn1"
	"math/big"
	"testing"
	"time"

	"drawbridge/api"
	"drawbridge/cert"
)

// parse is what Parse tells, which must be what the model tells.
func parse(t *testing.T, b []byte) (api.Cert, api.Errno) {
	t.Helper()
	got, e := cert.Parse(b)
	want, wantE := rightParse(b)
	if e != wantE || e == api.OK && !same(got, want) || e != api.OK && !isZero(got) {
		t.Fatalf("Parse(%x): %+v, %d, want %+v, %d", b, got, e, want, wantE)
	}
	return got, e
}

func TestParsesWhatIsThere(t *testing.T) {
	for _, c := range []struct {
		p    pieces
		want api.Cert
	}{
		{plain(), plainCert()}, {turned(), turnedCert()},
	} {
		if got, e := parse(t, c.p.bytes()); e != api.OK || !same(got, c.want) {
			t.Errorf("%+v, %d, want %+v", got, e, c.want)
		}
	}
}

func TestExamplesOfParse(t *testing.T) {
	for _, b := range [][]byte{{0x30, 0}, nil, {}} {
		if c, e := cert.Parse(b); e != api.ErrCertForm || !isZero(c) {
			t.Error(b, c, e)
		}
	}
}

// fault is a change of one piece, and the error that it brings.
type fault struct {
	piece  string
	name   string
	change func(p *pieces)
	want   api.Errno
}

// structure are faults that are met ahead of what any piece has within.
func structure() []fault {
	form := func(piece, name string, change func(p *pieces)) fault {
		return fault{piece, name, change, api.ErrCertForm}
	}
	return []fault{
		form("behind", "one byte behind", func(p *pieces) { p.behind = []byte{0} }),
		form("behind", "an item behind", func(p *pieces) { p.behind = put(0x30) }),
		form("tag", "another tag of the whole", func(p *pieces) { p.tag = 0x31 }),
		form("tag", "no tag of the whole", func(p *pieces) { p.tag = 0x3f }),
		form("last", "four items", func(p *pieces) { p.last = put(0x05) }),
		form("last", "a fourth item that is cut off", func(p *pieces) { p.last = []byte{0x05} }),
		form("sig", "two items", func(p *pieces) { p.sig = nil }),
		form("sig", "the signature's tag", func(p *pieces) { p.sig[0] = 0x04 }),
		form("outer", "the name's tag", func(p *pieces) { p.outer[0] = 0x31 }),
		form("tbsTag", "the TBS's tag", func(p *pieces) { p.tbsTag = 0xa0 }),
		form("version", "no version", func(p *pieces) { p.version = nil }),
		form("version", "the version's tag", func(p *pieces) { p.version[0] = 0xa1 }),
		form("serial", "no serial", func(p *pieces) { p.serial = nil }),
		form("serial", "the serial's tag", func(p *pieces) { p.serial[0] = 0x03 }),
		form("inner", "no name", func(p *pieces) { p.inner = nil }),
		form("inner", "the inner name's tag", func(p *pieces) { p.inner[0] = 0x06 }),
		form("issuer", "no issuer", func(p *pieces) { p.issuer = nil }),
		form("issuer", "the issuer's tag", func(p *pieces) { p.issuer[0] = 0x31 }),
		form("times", "no times", func(p *pieces) { p.times = nil }),
		form("times", "the times' tag", func(p *pieces) { p.times[0] = 0x17 }),
		form("subject", "no subject", func(p *pieces) { p.subject = nil }),
		form("subject", "the subject's tag", func(p *pieces) { p.subject[0] = 0x10 }),
		form("subject", "two subjects", func(p *pieces) { p.subject = append(put(0x30), put(0x30)...) }),
		form("key", "no key", func(p *pieces) { p.key = nil }),
		form("key", "the key's tag", func(p *pieces) { p.key[0] = 0x03 }),
		form("exts", "the extensions' tag", func(p *pieces) { p.exts[0] = 0xa2 }),
		form("more", "nine items", func(p *pieces) { p.more = put(0xa3, put(0x30)) }),
		form("more", "a ninth item that is cut off", func(p *pieces) { p.more = []byte{0xa3, 1} }),
		form("more", "a ninth item without a tag", func(p *pieces) { p.more = []byte{0x1f, 0} }),
	}
}

// times2 are two times.
func times2(from, until []byte) func(p *pieces) {
	return func(p *pieces) { p.times = put(0x30, from, until) }
}

// within are faults of what pieces have within, in the order in which they are met: all faults of a piece come ahead of those of the next.
func within() []fault {
	early, late := put(0x17, text("700101000000Z")), put(0x18, text("20500101000000Z"))
	spki := func(parts ...[]byte) func(p *pieces) {
		return func(p *pieces) { p.key = put(0x30, parts...) }
	}
	edKey, curveKey := publicOf(api.KeyEd, secret(1)), publicOf(api.KeyP256, secret(1))
	off := bytes.Clone(curveKey)
	off[64] ^= 1
	return []fault{
		{"version", "no items", func(p *pieces) { p.version = put(0xa0, []byte{2}) }, api.ErrCertForm},
		{"version", "no item", func(p *pieces) { p.version = put(0xa0) }, api.ErrCertForm},
		{"version", "two items", func(p *pieces) { p.version = put(0xa0, put(2, []byte{2}), put(2, []byte{2})) }, api.ErrCertForm},
		{"version", "another tag", func(p *pieces) { p.version = put(0xa0, put(0x0a, []byte{2})) }, api.ErrCertForm},
		{"version", "version 1", func(p *pieces) { p.version = put(0xa0, put(2, []byte{0})) }, api.ErrCertForm},
		{"version", "version 2", func(p *pieces) { p.version = put(0xa0, put(2, []byte{1})) }, api.ErrCertForm},
		{"version", "version 4", func(p *pieces) { p.version = put(0xa0, put(2, []byte{3})) }, api.ErrCertForm},
		{"version", "no number", func(p *pieces) { p.version = put(0xa0, put(2, []byte{0, 2})) }, api.ErrCertForm},
		{"version", "a long number", func(p *pieces) { p.version = put(0xa0, put(2, []byte{2, 2})) }, api.ErrCertForm},

		{"serial", "no bytes", func(p *pieces) { p.serial = put(2) }, api.ErrCertForm},
		{"serial", "below 0", func(p *pieces) { p.serial = put(2, []byte{0x80}) }, api.ErrCertForm},
		{"serial", "a nought ahead", func(p *pieces) { p.serial = put(2, []byte{0, 0x7f}) }, api.ErrCertForm},
		{"serial", "too long", func(p *pieces) { p.serial = put(2, bytes.Repeat([]byte{1}, 34)) }, api.ErrCertForm},

		{"inner", "RSA", func(p *pieces) { p.inner = nameRSA() }, api.ErrCertAlg},
		{"inner", "a key's name", func(p *pieces) { p.inner = nameCurveKey() }, api.ErrCertAlg},
		{"inner", "no name within", func(p *pieces) { p.inner = put(0x30) }, api.ErrCertAlg},
		{"inner", "two names within", func(p *pieces) { p.inner = put(0x30, oid("1.3.101.112"), oid("1.3.101.112")) }, api.ErrCertAlg},
		{"inner", "a nothing behind", func(p *pieces) { p.inner = put(0x30, oid("1.3.101.112"), put(5)) }, api.ErrCertAlg},
		{"inner", "another tag within", func(p *pieces) { p.inner = put(0x30, put(0x0d, oid("1.3.101.112")[2:])) }, api.ErrCertAlg},
		{"inner", "no items within", func(p *pieces) { p.inner = put(0x30, []byte{6, 9}) }, api.ErrCertAlg},

		{"times", "no items", func(p *pieces) { p.times = put(0x30, early, late[:16]) }, api.ErrCertForm},
		{"times", "one", func(p *pieces) { p.times = put(0x30, early) }, api.ErrCertForm},
		{"times", "three", func(p *pieces) { p.times = put(0x30, early, late, late) }, api.ErrCertForm},
		{"times", "the first one's tag", times2(put(0x16, early[2:]), late), api.ErrCertForm},
		{"times", "the second one's tag", times2(put(0x17), put(0x19, late[2:])), api.ErrCertForm},
		{"times", "the first one is none", times2(put(0x17, text("700101000060Z")), late), api.ErrCertTime},
		{"times", "the first one is nothing", times2(put(0x17), late), api.ErrCertTime},
		{"times", "the second one is none", times2(early, put(0x18, text("20500101000000"))), api.ErrCertTime},
		{"times", "a short one with a long tag", times2(early, put(0x18, text("300101000000Z"))), api.ErrCertTime},
		{"times", "a long one with a short tag", times2(early, put(0x17, text("20500101000000Z"))), api.ErrCertTime},
		{"times", "an early one of four digits", times2(put(0x18, text("20000101000000Z")), late), api.ErrCertTime},
		{"times", "the last one ahead of 2050", times2(early, put(0x18, text("20491231235959Z"))), api.ErrCertTime},
		{"times", "one ahead of 1950", times2(put(0x18, text("19491231235959Z")), late), api.ErrCertTime},
		{"times", "until ahead of from", times2(put(0x17, text("700101000001Z")), early), api.ErrCertTime},
		{"times", "long until ahead of long from", times2(put(0x18, text("20500101000001Z")), late), api.ErrCertTime},

		{"key", "no items", spki(nameEd(), key(edKey)[:34]), api.ErrCertForm},
		{"key", "one item", spki(nameEd()), api.ErrCertForm},
		{"key", "three items", spki(nameEd(), key(edKey), put(5)), api.ErrCertForm},
		{"key", "the name's tag", spki(put(0x31), key(edKey)), api.ErrCertForm},
		{"key", "the bits' tag", spki(nameRSA(), put(0x04, []byte{0}, edKey)), api.ErrCertForm},
		{"key", "RSA", spki(nameRSA(), put(0x03)), api.ErrCertAlg},
		{"key", "a signature's name", spki(nameCurveSig(), key(curveKey)), api.ErrCertAlg},
		{"key", "a curve without a name", spki(put(0x30, oid("1.2.840.10045.2.1")), key(curveKey)), api.ErrCertAlg},
		{"key", "P-384", spki(put(0x30, oid("1.2.840.10045.2.1"), oid("1.3.132.0.34")), key(curveKey)), api.ErrCertAlg},
		{"key", "nothing as a name", spki(put(0x30), key(edKey)), api.ErrCertAlg},
		{"key", "no bits", spki(nameEd(), put(0x03)), api.ErrCertForm},
		{"key", "bits that do not count", spki(nameEd(), put(0x03, []byte{1}, make([]byte, 32))), api.ErrCertForm},
		{"key", "no such bits", spki(nameEd(), put(0x03, []byte{8}, edKey)), api.ErrCertForm},
		{"key", "31 bytes", spki(nameEd(), key(edKey[:31])), api.ErrCertForm},
		{"key", "33 bytes", spki(nameEd(), key(append(edKey, 0))), api.ErrCertForm},
		{"key", "no bytes", spki(nameEd(), key(nil)), api.ErrCertForm},
		{"key", "a point's bytes of the other kind", spki(nameEd(), key(curveKey)), api.ErrCertForm},
		{"key", "no point's bytes", spki(nameCurveKey(), key(edKey)), api.ErrCertForm},
		{"key", "no point", spki(nameCurveKey(), key(off)), api.ErrCertForm},
		{"key", "Zero", spki(nameCurveKey(), key([]byte{0})), api.ErrCertForm},
		{"key", "no bytes of a point", spki(nameCurveKey(), key(nil)), api.ErrCertForm},
		{"key", "a point too long", spki(nameCurveKey(), key(append(curveKey, 0))), api.ErrCertForm},
		{"key", "a point by X alone", spki(nameCurveKey(), key(append([]byte{2 + curveKey[64]&1}, curveKey[1:33]...))), api.ErrCertForm},
	}
}

// extFaults are faults of extensions.
func extFaults() []fault {
	right := extension("2.5.29.14", text("right"))
	alien := marked("1.2.3", nil)
	exts := func(all ...[]byte) func(p *pieces) {
		return func(p *pieces) { *p = p.withExts(all...) }
	}
	return []fault{
		{"exts", "no items", func(p *pieces) { p.exts = put(0xa3, []byte{0x30}) }, api.ErrCertForm},
		{"exts", "no list", func(p *pieces) { p.exts = put(0xa3) }, api.ErrCertForm},
		{"exts", "two lists", func(p *pieces) { p.exts = put(0xa3, put(0x30, right), put(0x30, right)) }, api.ErrCertForm},
		{"exts", "the list's tag", func(p *pieces) { p.exts = put(0xa3, put(0x31, right)) }, api.ErrCertForm},
		{"exts", "no extension", exts(), api.ErrCertForm},
		{"exts", "half an extension behind", exts(alien, right[:5]), api.ErrCertForm},
		{"exts", "another tag behind", exts(alien, put(0x31)), api.ErrCertForm},
		{"exts", "no items of one", exts(put(0x30, []byte{1})), api.ErrCertForm},
		{"exts", "nothing in one", exts(put(0x30)), api.ErrCertForm},
		{"exts", "a name alone", exts(put(0x30, oid("1.2.3"))), api.ErrCertForm},
		{"exts", "a name and a truth", exts(put(0x30, oid("1.2.3"), yes())), api.ErrCertForm},
		{"exts", "a body ahead of a name", exts(put(0x30, put(4), oid("1.2.3"))), api.ErrCertForm},
		{"exts", "a body ahead of a truth", exts(put(0x30, oid("1.2.3"), put(4), yes())), api.ErrCertForm},
		{"exts", "two truths", exts(put(0x30, oid("1.2.3"), yes(), yes(), put(4))), api.ErrCertForm},
		{"exts", "two bodies", exts(put(0x30, oid("1.2.3"), put(4), put(4))), api.ErrCertForm},
		{"exts", "two bodies behind a truth", exts(put(0x30, oid("1.2.3"), yes(), put(4), put(4))), api.ErrCertForm},
		{"exts", "the body's tag", exts(put(0x30, oid("1.2.3"), put(3))), api.ErrCertForm},
		{"exts", "the body's tag behind a truth", exts(put(0x30, oid("1.2.3"), yes(), put(5))), api.ErrCertForm},
		{"exts", "the name's tag", exts(put(0x30, put(0x0d, []byte{0x2a}), put(4))), api.ErrCertForm},
		{"exts", "no name", exts(put(0x30, put(6), put(4))), api.ErrCertForm},
		{"exts", "a name that does not end", exts(put(0x30, put(6, []byte{0x55, 0x9d}), put(4))), api.ErrCertForm},
		{"exts", "no name, and marked", exts(put(0x30, put(6, []byte{0x80, 1}), yes(), put(4))), api.ErrCertForm},
		{"exts", "a truth that is false", exts(put(0x30, oid("1.2.3"), no(), put(4))), api.ErrCertForm},
		{"exts", "a truth that is none", exts(put(0x30, oid("1.2.3"), put(1, []byte{1}), put(4))), api.ErrCertForm},
		{"exts", "a truth without a byte", exts(put(0x30, oid("1.2.3"), put(1), put(4))), api.ErrCertForm},
		{"exts", "a false truth of a known one", exts(put(0x30, oid("2.5.29.19"), no(), put(4))), api.ErrCertForm},
		{"exts", "a false truth of the second one", exts(right, put(0x30, oid("2.5.29.14"), no(), put(4))), api.ErrCertForm},
		{"exts", "not known, and marked", exts(alien), api.ErrCertExt},
		{"exts", "one known, one not, and marked", exts(right, marked("2.5.29.30", put(0x30))), api.ErrCertExt},
		{"exts", "one that is not known twice", exts(right, right), api.ErrCertExt},
		{"exts", "one that is not known twice, others between", exts(right, extension("1.2.3"), right), api.ErrCertExt},
		{"exts", "a known one twice", exts(extension("2.5.29.19", put(0x30)), marked("2.5.29.19", put(0x30, yes()))), api.ErrCertExt},
		{"exts", "marked, ahead of one of no form", exts(alien, put(0x30)), api.ErrCertExt},
		{"exts", "no body, ahead of one of no form", exts(extension("2.5.29.19"), put(0x30, put(6), put(4))), api.ErrCertExt},
		{"exts", "twice, ahead of one of no form", exts(right, right, put(0x30, oid("1.2.3"), no(), put(4))), api.ErrCertExt},
	}
}

// behindTBS are the faults that are met last.
func behindTBS() []fault {
	return []fault{
		{"outer", "RSA", func(p *pieces) { p.outer = nameRSA() }, api.ErrCertAlg},
		{"outer", "a key's name", func(p *pieces) { p.outer = nameCurveKey() }, api.ErrCertAlg},
		{"outer", "another one", func(p *pieces) { p.outer = nameEd() }, api.ErrCertAlg},
		{"outer", "nothing", func(p *pieces) { p.outer = put(0x30) }, api.ErrCertAlg},
		{"outer", "no items", func(p *pieces) { p.outer = put(0x30, []byte{6}) }, api.ErrCertAlg},
		{"sig", "no bits", func(p *pieces) { p.sig = put(3) }, api.ErrCertForm},
		{"sig", "bits that do not count", func(p *pieces) { p.sig = put(3, []byte{1, 2}) }, api.ErrCertForm},
		{"sig", "no such bits", func(p *pieces) { p.sig = put(3, []byte{8, 0}) }, api.ErrCertForm},
	}
}

// changed are the bytes of plain pieces with some faults.
func changed(faults ...fault) []byte {
	p := plain()
	for _, f := range faults {
		f.change(&p)
	}
	return p.bytes()
}

func TestEachFault(t *testing.T) {
	for _, list := range [][]fault{structure(), within(), extFaults(), behindTBS()} {
		for _, f := range list {
			b := changed(f)
			if c, e := cert.Parse(b); e != f.want || !isZero(c) {
				t.Errorf("%s, %s: %d, want %d", f.piece, f.name, e, f.want)
			}
			parse(t, b)
		}
	}
}

func TestFirstOfTwoFaults(t *testing.T) {
	inner := append(append(within(), extFaults()...), behindTBS()...)
	for i, f := range inner {
		for _, g := range inner[i+1:] {
			if f.piece == g.piece {
				continue
			}
			if _, e := cert.Parse(changed(g, f)); e != f.want {
				t.Errorf("%s, %s and %s, %s: %d, want %d", f.piece, f.name, g.piece, g.name, e, f.want)
			}
		}
		for _, g := range structure() {
			if f.piece == g.piece {
				continue
			}
			if _, e := cert.Parse(changed(f, g)); e != api.ErrCertForm {
				t.Errorf("%s, %s and %s, %s: %d", f.piece, f.name, g.piece, g.name, e)
			}
		}
	}
}

func TestSignaturesOfEd(t *testing.T) {
	for n := range 130 {
		p := turned()
		p.sig = key(make([]byte, n))
		want := api.ErrCertForm
		if n == 64 {
			want = api.OK
		}
		if c, e := parse(t, p.bytes()); e != want || e == api.OK && len(c.Sig) != 64 {
			t.Error(n, e)
		}
	}
	for _, n := range []int{0, 1, 64, 127, 128, 300, 60000} {
		p := plain()
		p.sig = key(make([]byte, n))
		if c, e := parse(t, p.bytes()); e != api.OK || len(c.Sig) != n {
			t.Error(n, e)
		}
	}
	p := turned()
	p.outer = nameCurveSig()
	if _, e := parse(t, p.bytes()); e != api.ErrCertAlg {
		t.Error(e)
	}
	p.sig = put(3)
	if _, e := parse(t, p.bytes()); e != api.ErrCertAlg {
		t.Error("the name stands ahead of the bits:", e)
	}
}

func TestTimesAtEdges(t *testing.T) {
	short, long := func(s string) []byte { return put(0x17, text(s)) }, func(s string) []byte { return put(0x18, text(s)) }
	for _, c := range []struct {
		from, until []byte
		a, b        int64
	}{
		{short("500101000000Z"), short("500101000000Z"), -631152000, -631152000},
		{short("491231235959Z"), long("20500101000000Z"), 2524607999, 2524608000},
		{long("20500101000000Z"), long("99991231235959Z"), 2524608000, 253402300799},
		{short("691231235959Z"), short("700101000000Z"), -1, 0},
	} {
		p := plain()
		p.times = put(0x30, c.from, c.until)
		got, e := parse(t, p.bytes())
		if e != api.OK || got.From != c.a || got.Until != c.b {
			t.Error(got.From, got.Until, e)
		}
	}
}

func TestSerialsAtEdges(t *testing.T) {
	for _, c := range []struct{ body, want []byte }{
		{[]byte{0}, []byte{0}},
		{[]byte{127}, []byte{127}},
		{[]byte{0, 128}, []byte{128}},
		{append([]byte{0}, bytes.Repeat([]byte{255}, 32)...), bytes.Repeat([]byte{255}, 32)},
		{bytes.Repeat([]byte{127}, 33), bytes.Repeat([]byte{127}, 33)},
	} {
		p := plain()
		p.serial = put(2, c.body)
		if got, e := parse(t, p.bytes()); e != api.OK || !bytes.Equal(got.Serial, c.want) {
			t.Errorf("%x: %x, %d", c.body, got.Serial, e)
		}
	}
}

func TestNamesOfPeopleAreNotLookedAt(t *testing.T) {
	for _, body := range [][]byte{nil, {0xff}, {0x1f, 0x80}, text("any bytes"), make([]byte, 300)} {
		p := plain()
		p.issuer, p.subject = put(0x30, body), put(0x30, body, body)
		c, e := parse(t, p.bytes())
		if e != api.OK || !bytes.Equal(c.Issuer, p.issuer) || !bytes.Equal(c.Subject, p.subject) {
			t.Errorf("%x: %d", body, e)
		}
	}
}

func TestKeysOfEdAreAnyBytes(t *testing.T) {
	k := append([]byte{2}, make([]byte, 31)...) // no point has these bytes
	p := plain()
	p.key = put(0x30, nameEd(), key(k))
	if c, e := parse(t, p.bytes()); e != api.OK || !bytes.Equal(c.Key, k) {
		t.Error(c.Key, e)
	}
}

func TestEachByteOtherwise(t *testing.T) {
	for _, p := range []pieces{plain(), turned()} {
		b := p.bytes()
		for i := range b {
			for x := range 256 {
				other := bytes.Clone(b)
				other[i] = byte(x)
				parse(t, other)
			}
			if _, e := parse(t, b[:i]); e != api.ErrCertForm {
				t.Error("cut", i, e)
			}
			parse(t, append(bytes.Clone(b[:i]), b[i+1:]...))
			parse(t, append(append(bytes.Clone(b[:i]), 0), b[i:]...))
		}
	}
}

// P15.3: who has the same TBS says the same, whatever is signed behind it.
func TestOneTBSSaysOneThing(t *testing.T) {
	p := plain()
	a, _ := parse(t, p.bytes())
	p.sig = key(text("another one"))
	b, e := parse(t, p.bytes())
	if e != api.OK || !bytes.Equal(a.TBS, b.TBS) || bytes.Equal(a.Sig, b.Sig) {
		t.Fatal(e)
	}
	b.Sig, b.Raw = a.Sig, a.Raw
	if !same(a, b) {
		t.Errorf("%+v, %+v", a, b)
	}
	for _, behind := range [][]byte{{0}, {0x30}, put(0x30), plain().bytes()} {
		p := plain()
		p.behind = behind
		if _, e := parse(t, p.bytes()); e != api.ErrCertForm {
			t.Errorf("%x behind: %d", behind, e)
		}
	}
}

// Bytes behind the one item are not gone through, however many they are.
func TestManyBytesBehind(t *testing.T) {
	p := plain()
	p.behind = make([]byte, 1<<24)
	many := p.bytes()
	if n := testing.AllocsPerRun(1, func() {
		if _, e := cert.Parse(many); e != api.ErrCertForm {
			t.Error(e)
		}
	}); n > 100 {
		t.Error(n)
	}
	said := text("said")
	sig := append(signLibrary(api.KeyP256, secret(1), said), p.behind...)
	public := publicOf(api.KeyP256, secret(1))
	if n := testing.AllocsPerRun(1, func() {
		if cert.Verify(api.KeyP256, public, said, sig) {
			t.Error("taken")
		}
	}); n > 100 {
		t.Error(n)
	}
}

// template is a certificate as the library makes one.
func template() *x509.Certificate {
	return &x509.Certificate{
		SerialNumber:          new(big.Int).Lsh(big.NewInt(200), 100),
		Subject:               pkix.Name{CommonName: "leaf", Organization: []string{"o"}},
		NotBefore:             time.Unix(1_700_000_000, 0),
		NotAfter:              time.Unix(2_600_000_000, 0),
		KeyUsage:              x509.KeyUsageDigitalSignature | x509.KeyUsageKeyEncipherment,
		ExtKeyUsage:           []x509.ExtKeyUsage{x509.ExtKeyUsageClientAuth, x509.ExtKeyUsageCodeSigning},
		BasicConstraintsValid: true,
		DNSNames:              []string{"a.example", "*.b.example"},
		EmailAddresses:        []string{"x@y"},
		SubjectKeyId:          []byte{1, 2, 3},
		OCSPServer:            []string{"http://o"},
	}
}

func TestParsesTheLibrarys(t *testing.T) {
	for kind := api.KeyEd; kind <= api.KeyP256; kind++ {
		for by := api.KeyEd; by <= api.KeyP256; by++ {
			x := template()
			b, err := libraryCert(x, kind, by)
			if err != nil {
				t.Fatal(err)
			}
			c, e := parse(t, b)
			read, err := x509.ParseCertificate(b)
			if err != nil || e != api.OK {
				t.Fatal(err, e)
			}
			want := api.Cert{Raw: b, TBS: read.RawTBSCertificate, Serial: x.SerialNumber.Bytes(), SigKind: by, Issuer: read.RawIssuer, Subject: read.RawSubject, From: 1_700_000_000, Until: 2_600_000_000, Kind: kind, Key: publicOf(kind, secret(1)), Sig: read.Signature, Path: -1, Usage: api.UseSign, Client: true, Names: x.DNSNames}
			if !same(c, want) {
				t.Errorf("%+v, want %+v", c, want)
			}
			if !cert.Verify(by, publicOf(by, secret(2)), c.TBS, c.Sig) {
				t.Error("verify", kind, by)
			}
		}
	}
}

// libraryCert is one of the first secret's key, signed by the second.
func libraryCert(x *x509.Certificate, kind, by api.KeyKind) ([]byte, error) {
	ca := &x509.Certificate{Subject: pkix.Name{CommonName: "ca"}}
	var public, signer any = libraryEd(secret(1)).Public(), libraryEd(secret(2))
	if kind == api.KeyP256 {
		public = libraryP256(secret(1)).Public()
	}
	if by == api.KeyP256 {
		signer = libraryP256(secret(2))
	}
	return x509.CreateCertificate(rand.Reader, x, ca, public, signer)
}

func TestRefusesTheLibrarysOtherKinds(t *testing.T) {
	p384, err := ecdsa.GenerateKey(elliptic.P384(), rand.Reader)
	if err != nil {
		t.Fatal(err)
	}
	r, err := rsa.GenerateKey(rand.Reader, 2048)
	if err != nil {
		t.Fatal(err)
	}
	ed, p256 := libraryEd(secret(1)), libraryP256(secret(1))
	unknown := template()
	unknown.ExtraExtensions = []pkix.Extension{{Id: asn1.ObjectIdentifier{1, 2, 3}, Critical: true, Value: []byte{5, 0}}}
	limited := template()
	limited.PermittedDNSDomainsCritical, limited.PermittedDNSDomains = true, []string{"a"}
	sha384 := template()
	sha384.SignatureAlgorithm = x509.ECDSAWithSHA384
	for i, c := range []struct {
		x              *x509.Certificate
		public, signer any
		want           api.Errno
	}{
		{template(), p384.Public(), ed, api.ErrCertAlg},
		{template(), r.Public(), ed, api.ErrCertAlg},
		{template(), ed.Public(), p384, api.ErrCertAlg},
		{template(), ed.Public(), r, api.ErrCertAlg},
		{sha384, ed.Public(), p256, api.ErrCertAlg},
		{unknown, ed.Public(), p256, api.ErrCertExt},
		{limited, p256.Public(), ed, api.ErrCertExt},
	} {
		b, err := x509.CreateCertificate(rand.Reader, c.x, &x509.Certificate{}, c.public, c.signer)
		if err != nil {
			t.Fatal(err)
		}
		if _, e := parse(t, b); e != c.want {
			t.Error(i, e)
		}
	}
}

// spoil writes into all memory of a list, to see that nobody else has it.
func spoil(b []byte) {
	b = b[:cap(b)]
	for i := range b {
		b[i] ^= 0xff
	}
}

func TestParseKeepsToItsOwnMemory(t *testing.T) {
	room := make([]byte, 2000)
	for i := range room {
		room[i] = 7
	}
	b := room[:copy(room, plain().bytes())]
	before := bytes.Clone(room)
	c, e := cert.Parse(b)
	if e != api.OK || !bytes.Equal(room, before) {
		t.Fatal("changed", e)
	}
	spoil(b)
	if !same(c, plainCert()) {
		t.Error("kept what was handed in")
	}
	for i := range lists(&c) {
		b := plain().bytes()
		c, _ := cert.Parse(b)
		spoil(*lists(&c)[i])
		want := plainCert()
		*lists(&c)[i], *lists(&want)[i] = nil, nil
		if !same(c, want) || !bytes.Equal(b, plain().bytes()) {
			t.Error("two lists share memory", i)
		}
	}
}
