package cert_test

import (
	"bytes"
	"crypto/x509"
	"math"
	"slices"
	"strings"
	"testing"

	"drawbridge/api"
	"drawbridge/cert"
)

// asked is a certificate that may be built.
func asked() api.Cert {
	return api.Cert{
		Serial: []byte{1, 200}, Issuer: cert.Name("ca"), Subject: cert.Name("leaf"), From: 1000, Until: 2524608000,
		Kind: api.KeyEd, Key: publicOf(api.KeyEd, secret(1)), Path: -1, Usage: api.UseSign, Server: true, Names: []string{"a.b", "*.c.d"},
	}
}

// simple is one that says no more than it must.
func simple() api.Cert {
	return api.Cert{
		Serial: []byte{1}, Issuer: put(0x30), Subject: put(0x30), Kind: api.KeyEd, Key: make([]byte, 32),
		Path: -1, Usage: -1, Server: true, Client: true,
	}
}

// build is what Build makes, which Parse must tell as it was asked for, with a signature that is its issuer's.
func build(t *testing.T, c api.Cert, kind api.KeyKind, s [32]byte) []byte {
	t.Helper()
	b, e := cert.Build(c, kind, s)
	if e != api.OK {
		t.Fatalf("%+v: %d", c, e)
	}
	told, e := parse(t, b)
	want := c
	want.SigKind, want.Raw, want.TBS, want.Sig = kind, b, told.TBS, told.Sig
	if e != api.OK || !same(told, want) {
		t.Fatalf("%+v, %d, want %+v", told, e, want)
	}
	public, e := cert.Public(kind, s)
	if e != api.OK || !cert.Verify(kind, public, told.TBS, told.Sig) {
		t.Fatal("the signature is not its own", e)
	}
	return b
}

func refused(t *testing.T, what string, c api.Cert, kind api.KeyKind, s [32]byte) {
	t.Helper()
	if b, e := cert.Build(c, kind, s); e != api.ErrArg || len(b) != 0 {
		t.Errorf("%s: %d bytes, %d", what, len(b), e)
	}
}

func TestExampleOfBuild(t *testing.T) {
	c := simple()
	c.Names = []string{"a.b"}
	build(t, c, api.KeyEd, secret(3))
}

// What is built of all truths, paths, usages and names, byte for byte.
func TestBuildsEachExtension(t *testing.T) {
	truths := []bool{false, true}
	for _, ca := range truths {
		for _, path := range []int{-1, 0, 127, 128, 1<<31 - 1} {
			for usage := -1; usage <= 3; usage++ {
				for _, server := range truths {
					for _, client := range truths {
						for _, staple := range truths {
							c := simple()
							c.CA, c.Path, c.Usage, c.Server, c.Client, c.Staple = ca, path, usage, server, client, staple
							if usage%2 == 0 {
								c.Names = []string{"b", "a"}
							}
							buildOrNot(t, c)
						}
					}
				}
			}
		}
	}
}

func buildOrNot(t *testing.T, c api.Cert) {
	t.Helper()
	if !c.CA && c.Path != -1 || c.Usage == 0 || !c.Server && !c.Client && !c.Staple {
		refused(t, "an extension that may not be", c, api.KeyEd, secret(2))
		return
	}
	p := plain()
	p.serial, p.inner, p.issuer, p.subject = put(2, c.Serial), nameEd(), c.Issuer, c.Subject
	epoch := put(0x17, text("700101000000Z"))
	p.times, p.key = put(0x30, epoch, epoch), put(0x30, nameEd(), key(c.Key))
	p.exts = rightExtensions(c)
	p.outer, p.sig = nameEd(), key(signLibrary(api.KeyEd, secret(2), p.tbs()))
	if b := build(t, c, api.KeyEd, secret(2)); !bytes.Equal(b, p.bytes()) {
		t.Errorf("%x, want %x", b, p.bytes())
	}
}

// rightExtensions are those that Build writes, as the document tells them.
func rightExtensions(c api.Cert) []byte {
	var all [][]byte
	if c.CA {
		path := map[int][]byte{-1: nil, 0: {2, 1, 0}, 127: {2, 1, 127}, 128: {2, 2, 0, 128}, 1<<31 - 1: {2, 4, 127, 255, 255, 255}}[c.Path]
		all = append(all, marked("2.5.29.19", put(0x30, yes(), path)))
	}
	if c.Usage != -1 {
		all = append(all, marked("2.5.29.15", [][]byte{nil, {3, 2, 7, 0x80}, {3, 2, 2, 0x04}, {3, 2, 2, 0x84}}[c.Usage]))
	}
	if !(c.Server && c.Client && !c.Staple) {
		var names []byte
		for _, x := range []struct {
			is   bool
			name string
		}{{c.Server, "1"}, {c.Client, "2"}, {c.Staple, "9"}} {
			if x.is {
				names = append(names, oid("1.3.6.1.5.5.7.3."+x.name)...)
			}
		}
		all = append(all, extension("2.5.29.37", put(0x30, names)))
	}
	if len(c.Names) > 0 {
		all = append(all, extension("2.5.29.17", hosts(c.Names...)))
	}
	if len(all) == 0 {
		return nil
	}
	return put(0xa3, put(0x30, all...))
}

func TestBuildsAtEdges(t *testing.T) {
	long := strings.Repeat("n", 253)
	for what, change := range map[string]func(c *api.Cert){
		"as it is":             func(c *api.Cert) {},
		"a serial of nought":   func(c *api.Cert) { c.Serial = []byte{0} },
		"a serial of 32 bytes": func(c *api.Cert) { c.Serial = bytes.Repeat([]byte{255}, 32) },
		"a serial of 33 bytes": func(c *api.Cert) { c.Serial = bytes.Repeat([]byte{127}, 33) },
		"the first time":       func(c *api.Cert) { c.From = -631152000 },
		"one time":             func(c *api.Cert) { c.From = c.Until },
		"the last short time":  func(c *api.Cert) { c.From, c.Until = 2524607999, 2524607999 },
		"the last time":        func(c *api.Cert) { c.From, c.Until = 2524608000, 253402300799 },
		"32 long names":        func(c *api.Cert) { c.Names = slices.Repeat([]string{long}, 32) },
		"no names":             func(c *api.Cert) { c.Names = []string{} },
		"names of all bytes":   func(c *api.Cert) { c.Names = []string{"!\"#$%&'()*+,-./", "~"} },
		"a name of any bytes":  func(c *api.Cert) { c.Issuer, c.Subject = put(0x30, []byte{255}), put(0x30) },
		"a long name":          func(c *api.Cert) { c.Issuer = put(0x30, make([]byte, 60000)) },
		"a key of any bytes":   func(c *api.Cert) { c.Key = append([]byte{2}, make([]byte, 31)...) },
		"what does not count":  func(c *api.Cert) { c.Raw, c.TBS, c.Sig, c.SigKind = []byte{1}, []byte{2}, []byte{3}, 7 },
	} {
		for kind := api.KeyEd; kind <= api.KeyP256; kind++ {
			c := asked()
			change(&c)
			t.Run(what, func(t *testing.T) { build(t, c, kind, secret(4)) })
		}
	}
}

func TestRefusesToBuild(t *testing.T) {
	ed, curve := publicOf(api.KeyEd, secret(1)), publicOf(api.KeyP256, secret(1))
	off := bytes.Clone(curve)
	off[40] ^= 1
	times := put(0x30, put(0x17, text("700101001640Z")), put(0x18, text("20500101000000Z"))) // those that are asked for
	for what, change := range map[string]func(c *api.Cert){
		"nothing":                  func(c *api.Cert) { *c = api.Cert{} },
		"no serial":                func(c *api.Cert) { c.Serial = nil },
		"a nought ahead":           func(c *api.Cert) { c.Serial = []byte{0, 200} },
		"two noughts":              func(c *api.Cert) { c.Serial = []byte{0, 0} },
		"a serial too long":        func(c *api.Cert) { c.Serial = bytes.Repeat([]byte{128}, 33) },
		"a much longer serial":     func(c *api.Cert) { c.Serial = bytes.Repeat([]byte{1}, 70000) },
		"no issuer":                func(c *api.Cert) { c.Issuer = nil },
		"no subject":               func(c *api.Cert) { c.Subject = nil },
		"an issuer and a subject":  func(c *api.Cert) { c.Issuer, c.Subject = append(c.Issuer, c.Subject...), nil },
		"two subjects":             func(c *api.Cert) { c.Subject = append(c.Subject, c.Subject...) },
		"two issuers":              func(c *api.Cert) { c.Issuer = append(c.Issuer, c.Issuer...) },
		"times behind the issuer":  func(c *api.Cert) { c.Issuer, c.Subject = append(c.Issuer, times...), nil },
		"times ahead of a subject": func(c *api.Cert) { c.Issuer, c.Subject = nil, append(bytes.Clone(times), c.Subject...) },
		"another tag":              func(c *api.Cert) { c.Subject = put(0x31) },
		"half an item":             func(c *api.Cert) { c.Subject = c.Subject[:5] },
		"an issuer too long":       func(c *api.Cert) { c.Issuer = put(0x30, make([]byte, 65500)) },
		"an issuer of many bytes":  func(c *api.Cert) { c.Issuer = make([]byte, 1<<20) },
		"ahead of 1950":            func(c *api.Cert) { c.From = -631152001 },
		"behind 9999":              func(c *api.Cert) { c.Until = 253402300800 },
		"the greatest time":        func(c *api.Cert) { c.Until = math.MaxInt64 },
		"the least time":           func(c *api.Cert) { c.From = math.MinInt64 },
		"until ahead of from":      func(c *api.Cert) { c.Until = c.From - 1 },
		"kind 0":                   func(c *api.Cert) { c.Kind = 0 },
		"kind 3":                   func(c *api.Cert) { c.Kind = 3 },
		"kind -1":                  func(c *api.Cert) { c.Kind = -1 },
		"no key":                   func(c *api.Cert) { c.Key = nil },
		"31 bytes":                 func(c *api.Cert) { c.Key = ed[:31] },
		"33 bytes":                 func(c *api.Cert) { c.Key = append(bytes.Clone(ed), 1) },
		"another kind's key":       func(c *api.Cert) { c.Key = curve },
		"a key of another kind":    func(c *api.Cert) { c.Kind = api.KeyP256 },
		"no point":                 func(c *api.Cert) { c.Kind, c.Key = api.KeyP256, off },
		"a path without CA":        func(c *api.Cert) { c.Path = 0 },
		"a path below":             func(c *api.Cert) { c.CA, c.Path = true, -2 },
		"the least path":           func(c *api.Cert) { c.CA, c.Path = true, math.MinInt },
		"a path above":             func(c *api.Cert) { c.CA, c.Path = true, 1<<31 },
		"a path that wraps round":  func(c *api.Cert) { c.CA, c.Path = true, 1<<32 },
		"usage 0":                  func(c *api.Cert) { c.Usage = 0 },
		"usage 4":                  func(c *api.Cert) { c.Usage = 4 },
		"usage 5":                  func(c *api.Cert) { c.Usage = 5 },
		"usage -2":                 func(c *api.Cert) { c.Usage = -2 },
		"for nothing":              func(c *api.Cert) { c.Server = false },
		"an empty name":            func(c *api.Cert) { c.Names = []string{"a", ""} },
		"a name with a space":      func(c *api.Cert) { c.Names = []string{"a b"} },
		"a name of great bytes":    func(c *api.Cert) { c.Names = []string{"a\x7f"} },
		"a name too long":          func(c *api.Cert) { c.Names = []string{strings.Repeat("n", 254)} },
		"a name of very many":      func(c *api.Cert) { c.Names = []string{strings.Repeat("n", 65536)} },
		"one beside such a one":    func(c *api.Cert) { c.Names = []string{"a", strings.Repeat("n", 65536)} },
		"33 names":                 func(c *api.Cert) { c.Names = slices.Repeat([]string{"a"}, 33) },
		"names that have no room":  func(c *api.Cert) { c.Names = slices.Repeat([]string{"abcdefgh"}, 10000) },
		"names beside a long name": func(c *api.Cert) { c.Issuer = put(0x30, make([]byte, 65300)) },
	} {
		for kind := api.KeyEd; kind <= api.KeyP256; kind++ {
			c := asked()
			change(&c)
			refused(t, what, c, kind, secret(4))
		}
	}
	for _, kind := range []api.KeyKind{0, 3, -1, math.MaxInt, math.MinInt} {
		refused(t, "no kind", asked(), kind, secret(4))
	}
	for _, s := range noSecrets() {
		refused(t, "no secret", asked(), api.KeyP256, s)
		build(t, asked(), api.KeyEd, s)
	}
}

// Beside the subject's bytes a certificate that is signed by Ed25519 has 175, by P-256 191 to 193: all have room up to 65535.
func TestBuildsAsLongAsThereIsRoom(t *testing.T) {
	for _, room := range []struct {
		kind       api.KeyKind
		last, more int
	}{
		{api.KeyEd, 65360, 65361}, {api.KeyP256, 65342, 65345},
	} {
		c := simple()
		c.Subject = put(0x30, make([]byte, room.last))
		if b := build(t, c, room.kind, secret(1)); room.kind == api.KeyEd && len(b) != 4+65535 {
			t.Error(len(b))
		}
		for _, n := range []int{room.more, 65432, 65434, 65435, 65438, 65439, 65500, 65535} {
			c.Subject = put(0x30, make([]byte, n))
			refused(t, "too long", c, room.kind, secret(1))
		}
	}
}

func TestLibraryParsesWhatIsBuilt(t *testing.T) {
	for kind := api.KeyEd; kind <= api.KeyP256; kind++ {
		for by := api.KeyEd; by <= api.KeyP256; by++ {
			ca := api.Cert{
				Serial: []byte{7}, Issuer: cert.Name("ca"), Subject: cert.Name("ca"), From: 1000, Until: 2524608000,
				Kind: by, Key: publicOf(by, secret(2)), CA: true, Path: 0, Usage: api.UseCert, Server: true, Client: true,
			}
			c := asked()
			c.Kind, c.Key = kind, publicOf(kind, secret(1))
			root, err := x509.ParseCertificate(build(t, ca, by, secret(2)))
			if err != nil {
				t.Fatal(err)
			}
			leaf, err := x509.ParseCertificate(build(t, c, by, secret(2)))
			if err != nil {
				t.Fatal(err)
			}
			if err := leaf.CheckSignatureFrom(root); err != nil {
				t.Error(err)
			}
			if err := root.CheckSignatureFrom(root); err != nil {
				t.Error(err)
			}
			if !root.IsCA || root.MaxPathLen != 0 || !root.MaxPathLenZero || root.KeyUsage != x509.KeyUsageCertSign || len(root.ExtKeyUsage) > 0 {
				t.Errorf("%+v", root)
			}
			if leaf.IsCA || leaf.KeyUsage != x509.KeyUsageDigitalSignature || !slices.Equal(leaf.ExtKeyUsage, []x509.ExtKeyUsage{x509.ExtKeyUsageServerAuth}) || !slices.Equal(leaf.DNSNames, c.Names) {
				t.Errorf("%+v", leaf)
			}
			if leaf.NotBefore.Unix() != 1000 || leaf.NotAfter.Unix() != 2524608000 || leaf.SerialNumber.Int64() != 456 || leaf.Issuer.CommonName != "ca" || leaf.Subject.CommonName != "leaf" {
				t.Errorf("%+v", leaf)
			}
		}
	}
}

func TestBuildKeepsToItsOwnMemory(t *testing.T) {
	c := asked()
	for _, list := range lists(&c) {
		*list = append(make([]byte, 0, 500), *list...)
	}
	c.Names = append(make([]string, 0, 9), c.Names...)
	want := slices.Clone(c.Names[:9])
	b := build(t, c, api.KeyEd, secret(1))
	again := bytes.Clone(b)
	for i, list := range lists(&c) {
		if len(bytes.Trim((*list)[len(*list):500], "\x00")) > 0 {
			t.Error("changed", i)
		}
		spoil(*list)
	}
	if !slices.Equal(c.Names[:9], want) {
		t.Error("changed the names")
	}
	if !bytes.Equal(b, again) {
		t.Error("shares memory")
	}
	spoil(b)
	if b := build(t, asked(), api.KeyEd, secret(1)); !bytes.Equal(b, again) {
		t.Error("kept what it handed out")
	}
}
