package chain_test

import (
	"bytes"
	"crypto/sha256"
	"crypto/x509/pkix"
	"encoding/asn1"
	"math"
	"math/big"
	"math/rand"
	"reflect"
	"slices"
	"testing"
	"time"

	"drawbridge/api"
	"drawbridge/cert"
	"drawbridge/chain"
)

// order is the order of P-256, the first number that is no secret.
func order() [32]byte {
	var b [32]byte
	n, _ := new(big.Int).SetString("ffffffff00000000ffffffffffffffffbce6faada7179e84f3b9cac2fc632551", 16)
	n.FillBytes(b[:])
	return b
}

// build is what BuildStaple makes, which ParseStaple must tell as it was asked for, with a signature that is its issuer's.
func build(t *testing.T, s api.Staple, kind api.KeyKind, by [32]byte) []byte {
	t.Helper()
	b, e := chain.BuildStaple(s, kind, by)
	if e != api.OK {
		t.Fatalf("%+v: %d", s, e)
	}
	told, e := parse(t, b)
	want := s
	want.SigKind, want.TBS, want.Sig = kind, told.TBS, told.Sig
	if e != api.OK || !sameStaple(told, want) {
		t.Fatalf("%+v, %d, want %+v", told, e, want)
	}
	if !verifyLibrary(kind, publicOf(kind, by), told.TBS, told.Sig) {
		t.Fatal("the signature is not its own")
	}
	return b
}

func refused(t *testing.T, what string, s api.Staple, kind api.KeyKind, by [32]byte) {
	t.Helper()
	if b, e := chain.BuildStaple(s, kind, by); e != api.ErrArg || len(b) != 0 {
		t.Errorf("%s: %d bytes, %d", what, len(b), e)
	}
}

// What is built of both kinds, good or not, byte for byte.
func TestBuildsByteForByte(t *testing.T) {
	for _, kind := range kinds() {
		for _, good := range []bool{true, false} {
			p, s := plain(), plainStaple()
			if s.Good = good; !good {
				p.status = []byte{0x82, 0}
			}
			if kind == api.KeyP256 {
				p.kind = nameCurveSig()
			}
			p.sig = put(3, []byte{0}, signLibrary(kind, secret(5), p.tbs()))
			// What it has of these does not count.
			s.TBS, s.SigKind, s.Sig = text("no TBS"), 9, text("no signature")
			if b := build(t, s, kind, secret(5)); !bytes.Equal(b, p.bytes()) {
				t.Errorf("%x, want %x", b, p.bytes())
			}
			s.TBS, s.SigKind, s.Sig = nil, 0, nil
			if b := build(t, s, kind, secret(5)); !bytes.Equal(b, p.bytes()) {
				t.Errorf("%x, want %x", b, p.bytes())
			}
		}
	}
}

// Times have four digits of the year, whatever the year is.
func TestBuildsEachTime(t *testing.T) {
	for _, at := range []int64{
		-62135596800, -62135596799, -631152001, -631152000, -1, 0, 1, 946684799, 946684800, 951782400, 1700000000,
		2524607999, 2524608000, 4102444800, 253402300798, 253402300799,
	} {
		for i := range 3 {
			s, p := plainStaple(), plain()
			*[]*int64{&s.Made, &s.From, &s.Until}[i] = at
			*[]*[]byte{&p.made, &p.from, &p.until}[i] = put(0x18, text(time.Unix(at, 0).UTC().Format("20060102150405Z")))
			p.sig = put(3, []byte{0}, signLibrary(api.KeyEd, secret(5), p.tbs()))
			if b := build(t, s, api.KeyEd, secret(5)); !bytes.Equal(b, p.bytes()) {
				t.Errorf("%x, want %x", b, p.bytes())
			}
		}
	}
	for _, at := range []int64{math.MinInt64, -62135596801, 253402300800, math.MaxInt64} {
		for i := range 3 {
			s := plainStaple()
			*[]*int64{&s.Made, &s.From, &s.Until}[i] = at
			refused(t, "a time that is none", s, api.KeyEd, secret(5))
		}
	}
}

func TestBuildsWhatMayBe(t *testing.T) {
	for what, change := range map[string]func(s *api.Staple){
		"the serial 0":                   func(s *api.Staple) { s.Serial = []byte{0} },
		"a serial of one byte":           func(s *api.Staple) { s.Serial = []byte{127} },
		"a great byte":                   func(s *api.Staple) { s.Serial = []byte{128} },
		"32 great bytes":                 func(s *api.Staple) { s.Serial = bytes.Repeat([]byte{255}, 32) },
		"33 bytes":                       func(s *api.Staple) { s.Serial = bytes.Repeat([]byte{127}, 33) },
		"an empty responder":             func(s *api.Staple) { s.Responder = []byte{0x30, 0} },
		"a long one":                     func(s *api.Staple) { s.Responder = put(0x30, make([]byte, 60000)) },
		"anything in it":                 func(s *api.Staple) { s.Responder = []byte{0x30, 1, 0x1f} },
		"it ends ahead of its beginning": func(s *api.Staple) { s.From, s.Until = 5, 4 },
		"one moment":                     func(s *api.Staple) { s.From, s.Until, s.Made = 5, 5, 6 },
		"hashes of noughts":              func(s *api.Staple) { s.NameHash, s.KeyHash = make([]byte, 32), make([]byte, 32) },
	} {
		s := plainStaple()
		change(&s)
		t.Log(what)
		build(t, s, api.KeyEd, secret(5))
	}
}

func TestBuildRefuses(t *testing.T) {
	for what, change := range map[string]func(s *api.Staple){
		"no serial":                  func(s *api.Staple) { s.Serial = nil },
		"a nought ahead":             func(s *api.Staple) { s.Serial = []byte{0, 200} },
		"two noughts":                func(s *api.Staple) { s.Serial = []byte{0, 0} },
		"34 bytes":                   func(s *api.Staple) { s.Serial = bytes.Repeat([]byte{1}, 34) },
		"33 bytes, the first great":  func(s *api.Staple) { s.Serial = bytes.Repeat([]byte{128}, 33) },
		"noughts ahead of 32 bytes":  func(s *api.Staple) { s.Serial = append(make([]byte, 9), make([]byte, 32)...) },
		"no responder":               func(s *api.Staple) { s.Responder = nil },
		"a responder of another tag": func(s *api.Staple) { s.Responder = put(0x31) },
		"two responders":             func(s *api.Staple) { s.Responder = []byte{0x30, 0, 0x30, 0} },
		"a responder and a byte":     func(s *api.Staple) { s.Responder = []byte{0x30, 0, 5} },
		"a responder that is cut":    func(s *api.Staple) { s.Responder = []byte{0x30, 2, 5} },
		"another length's form":      func(s *api.Staple) { s.Responder = []byte{0x30, 0x81, 1, 5} },
		"a responder without room":   func(s *api.Staple) { s.Responder = put(0x30, make([]byte, 65535)) },
		"more than an item has":      func(s *api.Staple) { s.Responder = make([]byte, 1<<20) },
		"no NameHash":                func(s *api.Staple) { s.NameHash = nil },
		"a short NameHash":           func(s *api.Staple) { s.NameHash = make([]byte, 31) },
		"a long NameHash":            func(s *api.Staple) { s.NameHash = make([]byte, 33) },
		"no KeyHash":                 func(s *api.Staple) { s.KeyHash = nil },
		"a short KeyHash":            func(s *api.Staple) { s.KeyHash = make([]byte, 31) },
		"a long KeyHash":             func(s *api.Staple) { s.KeyHash = make([]byte, 1<<17) },
	} {
		s := plainStaple()
		change(&s)
		refused(t, what, s, api.KeyEd, secret(5))
		refused(t, what+", P-256", s, api.KeyP256, secret(5))
	}
	for _, kind := range []api.KeyKind{math.MinInt, -1, 0, 3, math.MaxInt} {
		refused(t, "a kind that is none", plainStaple(), kind, secret(5))
	}
	for _, by := range [][32]byte{{}, order(), [32]byte(bytes.Repeat([]byte{255}, 32))} {
		refused(t, "a secret that is none", plainStaple(), api.KeyP256, by)
		build(t, plainStaple(), api.KeyEd, by)
	}
	below := order()
	below[31]--
	build(t, plainStaple(), api.KeyP256, below)
	refused(t, "nothing", api.Staple{}, api.KeyEd, secret(5))
}

// The longest responder that has room, and one byte more.
func TestLongestResponder(t *testing.T) {
	s := plainStaple()
	p := plain()
	p.sig = put(3, []byte{0}, make([]byte, 64))
	fits := func(n int) bool {
		p.responder = put(0x30, make([]byte, n))
		is := true
		func() {
			defer func() { is = recover() == nil }()
			p.bytes()
		}()
		return is
	}
	n := 65535
	for !fits(n) {
		n--
	}
	s.Responder = put(0x30, make([]byte, n))
	build(t, s, api.KeyEd, secret(5))
	s.Responder = put(0x30, make([]byte, n+1))
	refused(t, "one byte more", s, api.KeyEd, secret(5))
}

func TestMemoryOfBuild(t *testing.T) {
	s := twinStaple(plainStaple())
	want := twinStaple(s)
	b := build(t, s, api.KeyEd, secret(5))
	if !sameStaple(s, want) || !unused(lists(&s)) {
		t.Error("what was handed in is not as it was")
	}
	before := bytes.Clone(b)
	for _, list := range lists(&s) {
		for i := range (*list)[:cap(*list)] {
			(*list)[:cap(*list)][i] ^= 0x55
		}
	}
	if !bytes.Equal(b, before) {
		t.Error("it shares what was handed in")
	}
	if !bytes.Equal(build(t, want, api.KeyEd, secret(5)), before) {
		t.Error("another time it is another one")
	}
}

// The forms of an issuer's answer, as the library writes and reads them.
type libAnswer struct {
	State  asn1.Enumerated
	Answer struct {
		Type asn1.ObjectIdentifier
		B    []byte
	} `asn1:"explicit,tag:0"`
}

type libBasic struct {
	TBS  libTBS
	Kind pkix.AlgorithmIdentifier
	Sig  asn1.BitString
}

type libTBS struct {
	Raw       asn1.RawContent
	Responder asn1.RawValue
	Made      time.Time `asn1:"generalized"`
	Single    []libSingle
}

type libSingle struct {
	About struct {
		Hash              pkix.AlgorithmIdentifier
		NameHash, KeyHash []byte
		Serial            *big.Int
	}
	Good    asn1.Flag     `asn1:"tag:0,optional"`
	Revoked asn1.RawValue `asn1:"tag:1,optional"`
	Unknown asn1.Flag     `asn1:"tag:2,optional"`
	From    time.Time     `asn1:"generalized"`
	Until   time.Time     `asn1:"generalized,explicit,tag:0"`
}

func unmarshal(t *testing.T, b []byte, v any) {
	t.Helper()
	if rest, err := asn1.Unmarshal(b, v); err != nil || len(rest) != 0 {
		t.Fatal(err, len(rest))
	}
}

// The library reads what is built.
func TestTheLibraryReadsIt(t *testing.T) {
	for _, kind := range kinds() {
		s := plainStaple()
		s.Responder = cert.Name("ca")
		var a libAnswer
		var b libBasic
		unmarshal(t, build(t, s, kind, secret(5)), &a)
		unmarshal(t, a.Answer.B, &b)
		if a.State != 0 || a.Answer.Type.String() != "1.3.6.1.5.5.7.48.1.1" || len(b.TBS.Single) != 1 {
			t.Fatal(a, b)
		}
		x := b.TBS.Single[0]
		if x.About.Hash.Algorithm.String() != "2.16.840.1.101.3.4.2.1" || !bytes.Equal(x.About.NameHash, s.NameHash) || !bytes.Equal(x.About.KeyHash, s.KeyHash) || !bytes.Equal(x.About.Serial.Bytes(), s.Serial) {
			t.Error(x.About)
		}
		if !bool(x.Good) || bool(x.Unknown) || x.From.Unix() != s.From || x.Until.Unix() != s.Until || b.TBS.Made.Unix() != s.Made {
			t.Error(x)
		}
		if !bytes.Equal(b.TBS.Responder.Bytes, s.Responder) || !verifyLibrary(kind, publicOf(kind, secret(5)), b.TBS.Raw, b.Sig.Bytes) {
			t.Error(b)
		}
	}
}

// What the library writes is read.
func TestReadsTheLibrarys(t *testing.T) {
	var x libSingle
	x.About.Hash.Algorithm = asn1.ObjectIdentifier{2, 16, 840, 1, 101, 3, 4, 2, 1}
	x.About.NameHash, x.About.KeyHash, x.About.Serial = bytes.Repeat([]byte{7}, 32), bytes.Repeat([]byte{8}, 32), big.NewInt(1<<40-1)
	x.Good, x.From, x.Until = true, time.Unix(1700000000, 0).UTC(), time.Unix(2600000000, 0).UTC()
	name := cert.Name("ca")
	tbs := libTBS{Responder: asn1.RawValue{Class: 2, Tag: 1, IsCompound: true, Bytes: name}, Made: time.Unix(1700000001, 0).UTC(), Single: []libSingle{x}}
	raw, err := asn1.Marshal(tbs)
	if err != nil {
		t.Fatal(err)
	}
	sig := signLibrary(api.KeyP256, secret(5), raw)
	basic := libBasic{TBS: tbs, Kind: pkix.AlgorithmIdentifier{Algorithm: asn1.ObjectIdentifier{1, 2, 840, 10045, 4, 3, 2}}, Sig: asn1.BitString{Bytes: sig, BitLength: 8 * len(sig)}}
	var a libAnswer
	a.Answer.Type = asn1.ObjectIdentifier{1, 3, 6, 1, 5, 5, 7, 48, 1, 1}
	if a.Answer.B, err = asn1.Marshal(basic); err != nil {
		t.Fatal(err)
	}
	b, err := asn1.Marshal(a)
	if err != nil {
		t.Fatal(err)
	}
	want := api.Staple{
		TBS: raw, Responder: name, Made: 1700000001, NameHash: x.About.NameHash, KeyHash: x.About.KeyHash,
		Serial: []byte{255, 255, 255, 255, 255}, Good: true, From: 1700000000, Until: 2600000000, SigKind: api.KeyP256, Sig: sig,
	}
	if s, e := parse(t, b); e != api.OK || !sameStaple(s, want) {
		t.Errorf("%+v, %d, want %+v", s, e, want)
	}
}

func TestAbout(t *testing.T) {
	issuer := api.Cert{Subject: text("who"), Key: text("key"), Issuer: text("not this"), Serial: []byte{9}, From: 1, Until: 2, Kind: api.KeyEd}
	c := api.Cert{Subject: text("nor this"), Key: text("nor this"), Serial: []byte{1, 2}, From: 3, Until: 4}
	for _, at := range [][2]int64{{100, 200}, {200, 100}, {math.MinInt64, math.MaxInt64}, {0, 0}} {
		name, key := sha256.Sum256(text("who")), sha256.Sum256(text("key"))
		want := api.Staple{Responder: text("who"), Made: at[0], NameHash: name[:], KeyHash: key[:], Serial: []byte{1, 2}, Good: true, From: at[0], Until: at[1]}
		if s := chain.About(c, issuer, at[0], at[1]); !sameStaple(s, want) {
			t.Errorf("%+v, want %+v", s, want)
		}
	}
	none := sha256.Sum256(nil)
	if s := chain.About(api.Cert{}, api.Cert{}, 0, 0); !sameStaple(s, api.Staple{NameHash: none[:], KeyHash: none[:], Good: true}) {
		t.Errorf("%+v", s)
	}
}

func TestMemoryOfAbout(t *testing.T) {
	issuer, c := api.Cert{Subject: text("who"), Key: text("who")}, api.Cert{Serial: []byte{1, 2}}
	issuer, c = twinCert(issuer), twinCert(c)
	s := chain.About(c, issuer, 1, 2)
	want := twinStaple(s)
	for _, list := range append(lists(&issuer), lists(&c)...) {
		for i := range (*list)[:cap(*list)] {
			if i >= len(*list) && (*list)[:cap(*list)][i] != 0 {
				t.Error("the spare room is not as it was")
			}
			(*list)[:cap(*list)][i] ^= 0x55
		}
	}
	if !sameStaple(s, want) {
		t.Error("it shares what was handed in")
	}
	apart(t, s)
	// One certificate may be both: of two lists that are one, two come out.
	self := api.Cert{Subject: text("who"), Key: text("who")}
	self.Serial = self.Subject
	apart(t, chain.About(self, self, 1, 2))
}

// rightCheckStaple is CheckStaple, as the document tells it.
func rightCheckStaple(s api.Staple, c, issuer api.Cert, now int64) api.Errno {
	name, key := sha256.Sum256(issuer.Subject), sha256.Sum256(issuer.Key)
	if !s.Good || !bytes.Equal(s.Responder, issuer.Subject) || !bytes.Equal(s.NameHash, name[:]) || !bytes.Equal(s.KeyHash, key[:]) || !bytes.Equal(s.Serial, c.Serial) {
		return api.ErrStapleOther
	}
	if !(s.From <= now && now <= s.Until) {
		return api.ErrChainTime
	}
	if s.SigKind != issuer.Kind || !verifyLibrary(issuer.Kind, issuer.Key, s.TBS, s.Sig) {
		return api.ErrChainSig
	}
	return api.OK
}

func checkStaple(t *testing.T, s api.Staple, c, issuer api.Cert, now int64) api.Errno {
	t.Helper()
	e := chain.CheckStaple(s, c, issuer, now)
	if want := rightCheckStaple(s, c, issuer, now); e != want {
		t.Fatalf("%d, want %d, of %+v, %+v, %+v, %d", e, want, s, c, issuer, now)
	}
	return e
}

// stapled is a certificate, its issuer's, and a staple about it.
func stapled(t *testing.T, kind api.KeyKind) (s api.Staple, c, issuer api.Cert) {
	t.Helper()
	ca := who{"ca", kind, secret(1)}
	issuer = made(t, ca, ca, nil)
	c = made(t, who{"leaf", api.KeyEd, secret(2)}, ca, nil)
	s, e := parse(t, build(t, chain.About(c, issuer, 110, 120), kind, ca.secret))
	if e != api.OK {
		t.Fatal(e)
	}
	return s, c, issuer
}

func TestStaplesInTime(t *testing.T) {
	for _, kind := range kinds() {
		s, c, issuer := stapled(t, kind)
		for now := int64(105); now < 125; now++ {
			want := api.ErrChainTime
			if now >= 110 && now <= 120 {
				want = api.OK
			}
			if e := checkStaple(t, s, c, issuer, now); e != want {
				t.Error(now, e)
			}
		}
		for _, now := range []int64{math.MinInt64, math.MaxInt64} {
			if e := checkStaple(t, s, c, issuer, now); e != api.ErrChainTime {
				t.Error(now, e)
			}
		}
		if e := checkStaple(t, s, issuer, issuer, 115); e != api.ErrStapleOther {
			t.Error("of another certificate", e)
		}
		if e := checkStaple(t, s, c, c, 115); e != api.ErrStapleOther {
			t.Error("of another issuer", e)
		}
		if e := checkStaple(t, api.Staple{}, api.Cert{}, api.Cert{}, 0); e != api.ErrStapleOther {
			t.Error("nothing", e)
		}
	}
}

// stapleFaults are changes, and what each brings.
func stapleFaults() []struct {
	what   string
	want   api.Errno
	change func(s *api.Staple, c, issuer *api.Cert)
} {
	return []struct {
		what   string
		want   api.Errno
		change func(s *api.Staple, c, issuer *api.Cert)
	}{
		{"not good", api.ErrStapleOther, func(s *api.Staple, c, issuer *api.Cert) { s.Good = false }},
		{"another responder", api.ErrStapleOther, func(s *api.Staple, c, issuer *api.Cert) { s.Responder[3] ^= 1 }},
		{"no responder", api.ErrStapleOther, func(s *api.Staple, c, issuer *api.Cert) { s.Responder = nil }},
		{"another NameHash", api.ErrStapleOther, func(s *api.Staple, c, issuer *api.Cert) { s.NameHash[31] ^= 1 }},
		{"another KeyHash", api.ErrStapleOther, func(s *api.Staple, c, issuer *api.Cert) { s.KeyHash[0] ^= 1 }},
		{"a short KeyHash", api.ErrStapleOther, func(s *api.Staple, c, issuer *api.Cert) { s.KeyHash = s.KeyHash[:31] }},
		{"another serial", api.ErrStapleOther, func(s *api.Staple, c, issuer *api.Cert) { s.Serial[0] ^= 1 }},
		{"a nought ahead of the serial", api.ErrStapleOther, func(s *api.Staple, c, issuer *api.Cert) { c.Serial = append([]byte{0}, c.Serial...) }},
		{"another name of the issuer", api.ErrStapleOther, func(s *api.Staple, c, issuer *api.Cert) { issuer.Subject = cert.Name("cb") }},
		{"another key of the issuer", api.ErrStapleOther, func(s *api.Staple, c, issuer *api.Cert) { issuer.Key = publicOf(issuer.Kind, secret(9)) }},
		{"too early", api.ErrChainTime, func(s *api.Staple, c, issuer *api.Cert) { s.From = 116 }},
		{"too late", api.ErrChainTime, func(s *api.Staple, c, issuer *api.Cert) { s.Until = 114 }},
		{"another kind", api.ErrChainSig, func(s *api.Staple, c, issuer *api.Cert) { s.SigKind = 3 - s.SigKind }},
		{"another kind of the issuer", api.ErrChainSig, func(s *api.Staple, c, issuer *api.Cert) { issuer.Kind = 3 - issuer.Kind }},
		{"both kinds none", api.ErrChainSig, func(s *api.Staple, c, issuer *api.Cert) { s.SigKind, issuer.Kind = 0, 0 }},
		{"both kinds others", api.ErrChainSig, func(s *api.Staple, c, issuer *api.Cert) {
			s.SigKind, issuer.Kind = 3-s.SigKind, 3-issuer.Kind
		}},
		{"another TBS", api.ErrChainSig, func(s *api.Staple, c, issuer *api.Cert) { s.TBS[9] ^= 1 }},
		{"another signature", api.ErrChainSig, func(s *api.Staple, c, issuer *api.Cert) { s.Sig[len(s.Sig)-1] ^= 1 }},
		{"no signature", api.ErrChainSig, func(s *api.Staple, c, issuer *api.Cert) { s.Sig = nil }},
		{"made another time", api.OK, func(s *api.Staple, c, issuer *api.Cert) { s.Made = math.MaxInt64 }},
		{"it may not sign staples", api.OK, func(s *api.Staple, c, issuer *api.Cert) { issuer.CA, issuer.Usage, issuer.Until = false, 0, 0 }},
		{"by another one", api.OK, func(s *api.Staple, c, issuer *api.Cert) { c.Issuer = cert.Name("cb") }},
	}
}

// Each fault, and every two of them: the first of what is wrong is told.
func TestFaultsOfStaples(t *testing.T) {
	for _, kind := range kinds() {
		s, c, issuer := stapled(t, kind)
		for _, one := range stapleFaults() {
			x, d, by := twinStaple(s), twinCert(c), twinCert(issuer)
			one.change(&x, &d, &by)
			if e := checkStaple(t, x, d, by, 115); e != one.want {
				t.Errorf("%s: %d, want %d", one.what, e, one.want)
			}
			for _, other := range stapleFaults() {
				x, d, by := twinStaple(s), twinCert(c), twinCert(issuer)
				one.change(&x, &d, &by)
				if len(x.Responder) > 0 && len(x.Sig) > 0 {
					other.change(&x, &d, &by)
					checkStaple(t, x, d, by, 115)
				}
			}
		}
	}
}

func TestCheckStapleChangesNothing(t *testing.T) {
	s, c, issuer := stapled(t, api.KeyEd)
	s, c, issuer = twinStaple(s), twinCert(c), twinCert(issuer)
	x, d, by := twinStaple(s), twinCert(c), twinCert(issuer)
	for range 2 {
		if e := checkStaple(t, s, c, issuer, 115); e != api.OK {
			t.Error(e)
		}
	}
	if !sameStaple(s, x) || !reflect.DeepEqual([]api.Cert{c, issuer}, []api.Cert{d, by}) {
		t.Error("something is not as it was")
	}
	if !unused(slices.Concat(lists(&s), lists(&c), lists(&issuer))) {
		t.Error("the spare room is not as it was")
	}
}

// Staples of all fields by chance: there and back.
func TestStaplesThereAndBack(t *testing.T) {
	r := rand.New(rand.NewSource(5))
	some := func(n int) []byte {
		b := make([]byte, n)
		r.Read(b)
		return b
	}
	for range 300 {
		kind, by := kinds()[r.Intn(2)], secret(byte(1+r.Intn(9)))
		issuer := api.Cert{Subject: put(0x30, some(r.Intn(400))), Kind: kind, Key: publicOf(kind, by)}
		c := api.Cert{Serial: append([]byte{byte(1 + r.Intn(255))}, some(r.Intn(32))...)}
		from := r.Int63n(253402300799+62135596800) - 62135596800
		until := from + r.Int63n(min(253402300799-from, 1<<40)+1)
		about := chain.About(c, issuer, from, until)
		about.Good = r.Intn(4) > 0
		s, e := parse(t, build(t, about, kind, by))
		if e != api.OK {
			t.Fatal(e)
		}
		now := from + r.Int63n(until-from+1)
		want := api.OK
		if !about.Good {
			want = api.ErrStapleOther
		}
		if e := checkStaple(t, s, c, issuer, now); e != want {
			t.Error(e, want)
		}
	}
}
