package cert_test

import (
	"bytes"
	"math/rand"
	"slices"
	"strings"
	"testing"

	"drawbridge/api"
)

// body is what Parse tells of a certificate with one extension, marked or not: it is the same.
func body(t *testing.T, name string, parts ...[]byte) (api.Cert, api.Errno) {
	t.Helper()
	c, e := parse(t, plain().withExts(extension(name, parts...)).bytes())
	d, f := parse(t, plain().withExts(marked(name, parts...)).bytes())
	d.Raw, d.TBS = c.Raw, c.TBS
	if e != f || !same(c, d) {
		t.Errorf("%s, %x: %d, marked %d", name, parts, e, f)
	}
	return c, e
}

func TestWithoutExtensions(t *testing.T) {
	p := plain()
	p.exts = nil
	for _, p := range []pieces{p, plain().withExts(extension("1.2.3"))} {
		c, e := parse(t, p.bytes())
		if e != api.OK || c.CA || c.Path != -1 || c.Usage != -1 || !c.Server || !c.Client || c.Staple || len(c.Names) > 0 {
			t.Errorf("%+v, %d", c, e)
		}
	}
}

func TestIssues(t *testing.T) {
	num := func(b ...byte) []byte { return put(2, b) }
	for _, c := range []struct {
		parts []byte
		want  api.Errno
		ca    bool
		path  int
	}{
		{put(0x30), api.OK, false, -1},
		{put(0x30, yes()), api.OK, true, -1},
		{put(0x30, yes(), num(0)), api.OK, true, 0},
		{put(0x30, yes(), num(0x7f, 255, 255, 255)), api.OK, true, 1<<31 - 1},
		{put(0x30, yes(), num(0, 0x80, 0, 0, 0)), api.ErrCertExt, false, 0},
		{put(0x30, yes(), num(0, 1)), api.ErrCertExt, false, 0},
		{put(0x30, yes(), num(0x80)), api.ErrCertExt, false, 0},
		{put(0x30, yes(), num()), api.ErrCertExt, false, 0},
		{put(0x30, yes(), num(1), num(1)), api.ErrCertExt, false, 0},
		{put(0x30, yes(), yes()), api.ErrCertExt, false, 0},
		{put(0x30, num(1)), api.ErrCertExt, false, 0},
		{put(0x30, num(1), yes()), api.ErrCertExt, false, 0},
		{put(0x30, no()), api.ErrCertExt, false, 0},
		{put(0x30, no(), num(1)), api.ErrCertExt, false, 0},
		{put(0x30, put(1, []byte{1})), api.ErrCertExt, false, 0},
		{put(0x30, put(1)), api.ErrCertExt, false, 0},
		{put(0x30, []byte{1}), api.ErrCertExt, false, 0},
		{put(0x31, yes()), api.ErrCertExt, false, 0},
		{append(put(0x30, yes()), 0), api.ErrCertExt, false, 0},
		{append(put(0x30, yes()), put(0x30)...), api.ErrCertExt, false, 0},
		{nil, api.ErrCertExt, false, 0},
		{[]byte{0x30, 0x81, 0}, api.ErrCertExt, false, 0},
	} {
		got, e := body(t, "2.5.29.19", c.parts)
		if e != c.want || got.CA != c.ca || got.Path != c.path {
			t.Errorf("%x: %v, %d, %d", c.parts, got.CA, got.Path, e)
		}
	}
}

func TestUsages(t *testing.T) {
	for _, c := range []struct {
		bits []byte
		want int // -1: there is none
	}{
		{[]byte{7, 0x80}, api.UseSign}, {[]byte{2, 0x04}, api.UseCert}, {[]byte{2, 0x84}, api.UseSign | api.UseCert},
		{[]byte{1, 0x86}, 3}, {[]byte{5, 0xa0}, 1}, {[]byte{5, 0x20}, 0}, {[]byte{7, 0x00, 0x80}, 0}, {[]byte{7, 0x84, 0x80}, 3},
		{[]byte{0, 0x00, 0x01}, 0}, {[]byte{0, 0xff, 0xff}, 3}, {[]byte{0, 0x01}, 0}, {[]byte{2, 0x00, 0x04}, 0},
		{[]byte{6, 0x80}, -1}, {[]byte{0, 0x80}, -1}, {[]byte{7, 0x84}, -1}, {[]byte{0}, -1}, {[]byte{}, -1}, {[]byte{0, 0}, -1}, {[]byte{7, 0}, -1},
		{[]byte{8, 0}, -1}, {[]byte{0, 0x84, 0}, -1}, {[]byte{7, 0x80, 0}, -1}, {[]byte{7, 0x80, 0, 0x80}, -1}, {[]byte{0, 1, 1, 1}, -1},
	} {
		got, e := body(t, "2.5.29.15", put(3, c.bits))
		if c.want == -1 {
			if e != api.ErrCertExt {
				t.Errorf("%x: %d, %d", c.bits, got.Usage, e)
			}
		} else if e != api.OK || got.Usage != c.want {
			t.Errorf("%x: %d, %d", c.bits, got.Usage, e)
		}
	}
	for _, b := range [][]byte{put(4, []byte{7, 0x80}), put(0x30, put(3, []byte{7, 0x80})), append(put(3, []byte{7, 0x80}), 0), nil} {
		if _, e := body(t, "2.5.29.15", b); e != api.ErrCertExt {
			t.Errorf("%x: %d", b, e)
		}
	}
}

func TestAllBytesOfUsages(t *testing.T) {
	for unused := range 10 {
		for flags := range 256 {
			for _, b := range [][]byte{{byte(flags)}, {0, byte(flags)}, {0x84, byte(flags)}, {byte(flags), 0x80}} {
				parse(t, plain().withExts(marked("2.5.29.15", put(3, []byte{byte(unused)}, b))).bytes())
			}
		}
	}
}

func TestPurposes(t *testing.T) {
	server, client, staple, other := oid("1.3.6.1.5.5.7.3.1"), oid("1.3.6.1.5.5.7.3.2"), oid("1.3.6.1.5.5.7.3.9"), oid("1.3.6.1.5.5.7.3.3")
	for _, c := range []struct {
		names [][]byte
		want  string
	}{
		{[][]byte{server}, "s"}, {[][]byte{client}, "c"}, {[][]byte{staple}, "o"}, {[][]byte{other}, ""},
		{[][]byte{staple, client, server}, "sco"}, {[][]byte{server, server}, "s"}, {[][]byte{other, client, other}, "c"},
		{[][]byte{oid("2.5.29.37.0")}, ""}, {[][]byte{oid("1.3.6.1.5.5.7.3")}, ""}, {[][]byte{oid("1.3.6.1.5.5.7.3.1.1")}, ""},
	} {
		got, e := body(t, "2.5.29.37", put(0x30, c.names...))
		if e != api.OK || got.Server != strings.Contains(c.want, "s") || got.Client != strings.Contains(c.want, "c") || got.Staple != strings.Contains(c.want, "o") {
			t.Errorf("%x: %v, %v, %v, %d", c.names, got.Server, got.Client, got.Staple, e)
		}
	}
	for _, b := range [][]byte{nil, put(0x30), put(0x30, server, put(5)), put(0x30, put(6)), put(0x30, server, put(6, []byte{0x80})), put(0x30, server, []byte{6}), put(0x31, server), server, append(put(0x30, server), 0)} {
		if _, e := body(t, "2.5.29.37", b); e != api.ErrCertExt {
			t.Errorf("%x: %d", b, e)
		}
	}
}

// hosts are the items of names.
func hosts(names ...string) []byte {
	var all [][]byte
	for _, name := range names {
		all = append(all, put(0x82, text(name)))
	}
	return put(0x30, all...)
}

func TestHosts(t *testing.T) {
	long := strings.Repeat("n", 253)
	for _, names := range [][]string{{"a"}, {"b.a", "a.b"}, {"a", "a"}, {"!", "~"}, {long}, slices.Repeat([]string{long}, 32)} {
		if c, e := body(t, "2.5.29.17", hosts(names...)); e != api.OK || !slices.Equal(c.Names, names) {
			t.Error(names, c.Names, e)
		}
	}
	for _, names := range [][]string{{""}, {"a", ""}, {" "}, {"a b"}, {"a\x7f"}, {"\x00"}, {"ä"}, {long + "n"}, slices.Repeat([]string{"a"}, 33), {}} {
		if _, e := body(t, "2.5.29.17", hosts(names...)); e != api.ErrCertExt {
			t.Error(names, e)
		}
	}
	for x := range 256 {
		_, e := body(t, "2.5.29.17", hosts("a"+string([]byte{byte(x)})))
		if (e == api.OK) != (x >= 33 && x <= 126) {
			t.Error(x, e)
		}
	}
}

func TestOtherNamesArePassedOver(t *testing.T) {
	other := put(0x87, []byte{1, 2, 3, 4})
	if c, e := body(t, "2.5.29.17", put(0x30, other)); e != api.OK || len(c.Names) != 0 {
		t.Error(c.Names, e)
	}
	all := bytes.Repeat(other, 100)
	if c, e := body(t, "2.5.29.17", put(0x30, all, put(0x82, text("a")), put(0xa4, text("?")), put(0x81, nil), put(0x82, text("b")))); e != api.OK || !slices.Equal(c.Names, []string{"a", "b"}) {
		t.Error(c.Names, e)
	}
	for _, b := range [][]byte{nil, put(0x30), put(0x30, other[:3]), put(0x30, other, []byte{0x82, 5, 'a'}), put(0x31, other), put(0x82, text("a")), append(hosts("a"), 0)} {
		if _, e := body(t, "2.5.29.17", b); e != api.ErrCertExt {
			t.Errorf("%x: %d", b, e)
		}
	}
}

func TestExtensionsInAnyOrder(t *testing.T) {
	all := [][]byte{
		marked("2.5.29.19", put(0x30, yes(), put(2, []byte{3}))), marked("2.5.29.15", put(3, []byte{2, 0x84})),
		extension("2.5.29.37", put(0x30, oid("1.3.6.1.5.5.7.3.1"), oid("1.3.6.1.5.5.7.3.9"))),
		extension("2.5.29.17", hosts("a.b", "*.c.d")), extension("2.5.29.14"), extension("0.0"), extension("2.5.29.18", hosts("")),
	}
	r := rand.New(rand.NewSource(1))
	for range 200 {
		r.Shuffle(len(all), func(i, j int) { all[i], all[j] = all[j], all[i] })
		c, e := parse(t, plain().withExts(all...).bytes())
		want := plainCert()
		c.Raw, c.TBS = want.Raw, want.TBS
		if e != api.OK || !same(c, want) {
			t.Fatalf("%+v, %d", c, e)
		}
		twice := all[r.Intn(len(all))]
		if _, e := parse(t, plain().withExts(append(slices.Clone(all), twice)...).bytes()); e != api.ErrCertExt {
			t.Fatalf("%x twice: %d", twice, e)
		}
	}
}

// As many extensions as have room: each is told from all ahead of it.
func TestManyExtensions(t *testing.T) {
	var all [][]byte
	for i := range 5000 {
		all = append(all, put(0x30, put(6, []byte{0x2a, 0x81 + byte(i>>7), byte(i & 0x7f)}), put(4)))
	}
	if _, e := parse(t, plain().withExts(all...).bytes()); e != api.OK {
		t.Error(e)
	}
	all[4999] = all[17]
	if _, e := parse(t, plain().withExts(all...).bytes()); e != api.ErrCertExt {
		t.Error(e)
	}
}
