package der_test

import (
	"bytes"
	"encoding/asn1"
	"math/big"
	"math/rand"
	"regexp"
	"slices"
	"strconv"
	"strings"
	"testing"

	"drawbridge/api"
	"drawbridge/der"
)

// groups cuts a body behind each byte whose highest bit is not set.
func groups(b []byte) [][]byte {
	var all [][]byte
	for begin, i := 0, 0; i < len(b); i++ {
		if b[i] < 128 || i == len(b)-1 {
			all = append(all, b[begin:i+1])
			begin = i + 1
		}
	}
	return all
}

// rightOID is OID as the document tells it, by numbers of any length.
func rightOID(b []byte) (string, bool) {
	var words []string
	all := groups(b)
	if len(all) < 1 || len(all) > 16 {
		return "", false
	}
	for i, group := range all {
		n := new(big.Int)
		for _, c := range group {
			n.Mul(n, big.NewInt(128)).Add(n, big.NewInt(int64(c%128)))
		}
		if group[0] == 128 || group[len(group)-1] >= 128 || n.BitLen() > 32 {
			return "", false
		}
		v := n.Int64()
		switch {
		case i > 0:
			words = append(words, n.String())
		case v < 40:
			words = append(words, "0", n.String())
		case v < 80:
			words = append(words, "1", strconv.FormatInt(v-40, 10))
		default:
			words = append(words, "2", strconv.FormatInt(v-80, 10))
		}
	}
	return strings.Join(words, "."), true
}

// oid: is OID of a body as it must be, and is what it tells written again, byte for byte?
func oid(t *testing.T, b []byte) {
	t.Helper()
	got, e := der.OID(b)
	want, is := rightOID(b)
	if !is {
		if got != "" || e != api.ErrDerValue {
			t.Fatalf("OID(%x): %q, %d, want ErrDerValue", b, got, e)
		}
		return
	}
	if got != want || e != api.OK {
		t.Fatalf("OID(%x): %q, %d, want %q", b, got, e, want)
	}
	if again := der.PutOID(got); !bytes.Equal(again, der.Put(6, b)) {
		t.Fatalf("PutOID(%q): %x, want the item of %x", got, again, b)
	}
}

func TestExamplesOfOIDs(t *testing.T) {
	for _, c := range []struct{ b, want string }{
		{"\x2a\x86\x48\xce\x3d\x02\x01", "1.2.840.10045.2.1"},
		{"\x2b\x65\x70", "1.3.101.112"},
		{"\x55\x1d\x13", "2.5.29.19"},
		{"\x60\x86\x48\x01\x65\x03\x04\x02\x01", "2.16.840.1.101.3.4.2.1"},
		{"\x00", "0.0"}, {"\x27", "0.39"}, {"\x28", "1.0"}, {"\x4f", "1.39"}, {"\x50", "2.0"}, {"\x7f", "2.47"}, {"\x81\x00", "2.48"}, {"\x88\x37", "2.999"},
		{"\x8f\xff\xff\xff\x7f", "2.4294967215"}, {"\x00\x8f\xff\xff\xff\x7f", "0.0.4294967295"},
	} {
		if got, e := der.OID([]byte(c.b)); got != c.want || e != api.OK {
			t.Errorf("OID(%x): %q, %d, want %q", c.b, got, e, c.want)
		}
		if got := der.PutOID(c.want); !bytes.Equal(got, der.Put(6, []byte(c.b))) {
			t.Errorf("PutOID(%q): %x", c.want, got)
		}
	}
}

func TestBodiesOfNoOID(t *testing.T) {
	for _, b := range []string{
		"", "\x80", "\x81", "\x80\x01", "\x2a\x80\x01", "\x2a\x81", "\x2a\x81\x80", "\x90\x80\x80\x80\x00", "\x00\x90\x80\x80\x80\x00", "\x81\x80\x80\x80\x80\x00", "\xff\xff\xff\xff\xff\xff\xff\xff\xff\x7f", "\xff\xff\xff\xff\x7f", strings.Repeat("\x01", 17), strings.Repeat("\x01", 16) + "\x81", strings.Repeat("\xff", 1000), strings.Repeat("\x80", 1000), strings.Repeat("\x01", 100000),
	} {
		if got, e := der.OID([]byte(b)); got != "" || e != api.ErrDerValue {
			t.Errorf("OID(%x): %q, %d", b, got, e)
		}
	}
}

func TestOIDOfAllShortTexts(t *testing.T) {
	texts([]byte{0x00, 0x01, 0x27, 0x28, 0x4f, 0x50, 0x7f, 0x80, 0x81, 0x8f, 0x90, 0xff}, 5, func(b []byte) { oid(t, b) })
	for c := range 256 {
		for d := range 256 {
			oid(t, []byte{byte(c), byte(d)})
			oid(t, []byte{0x2a, byte(c), byte(d), 0x01})
			oid(t, []byte{byte(c), 0xff, 0xff, 0xff, byte(d)})
		}
	}
}

// sevens is a number, seven bits a byte.
func sevens(n uint64) []byte {
	b := []byte{byte(n % 128)}
	for n /= 128; n > 0; n /= 128 {
		b = append([]byte{byte(128 + n%128)}, b...)
	}
	return b
}

// TestDrawnOIDs: of each number of numbers, of all lengths, some beyond the bound.
func TestDrawnOIDs(t *testing.T) {
	r := rand.New(rand.NewSource(20))
	for n := range 20 {
		for range 300 {
			var b []byte
			for range n {
				bits := r.Intn(33)
				if r.Intn(60) == 0 {
					bits = 33 + r.Intn(3)
				}
				b = append(b, sevens(uint64(r.Int63())%(1<<bits))...)
			}
			oid(t, b)
		}
	}
}

func TestOIDsAsTheLibrary(t *testing.T) {
	r := rand.New(rand.NewSource(21))
	for range 3000 {
		all := asn1.ObjectIdentifier{r.Intn(3), r.Intn(40)}
		for range r.Intn(16) {
			all = append(all, r.Intn(1<<r.Intn(32)))
		}
		want, err := asn1.Marshal(all)
		if err != nil {
			t.Fatal(err)
		}
		if got := der.PutOID(all.String()); !bytes.Equal(got, want) {
			t.Fatalf("PutOID(%q): %x, want %x", all.String(), got, want)
		}
	}
}

var oidForm = regexp.MustCompile(`^(0|[1-9][0-9]*)(\.(0|[1-9][0-9]*))+$`)

// rightPutOID is PutOID as the document tells it.
func rightPutOID(s string) []byte {
	if !oidForm.MatchString(s) {
		return nil
	}
	var all []uint64
	for _, word := range strings.Split(s, ".") {
		n, err := strconv.ParseUint(word, 10, 40)
		if err != nil {
			return nil
		}
		all = append(all, n)
	}
	if all[0] > 2 || all[0] < 2 && all[1] > 39 || len(all) > 17 {
		return nil
	}
	all = append([]uint64{40*all[0] + all[1]}, all[2:]...)
	var body []byte
	for _, n := range all {
		if n >= 1<<32 {
			return nil
		}
		body = append(body, sevens(n)...)
	}
	return slices.Concat([]byte{6, byte(len(body))}, body)
}

// putOID: is the item as it must be, and read as it was?
func putOID(t *testing.T, s string) {
	t.Helper()
	got, want := der.PutOID(s), rightPutOID(s)
	if !bytes.Equal(got, want) {
		t.Fatalf("PutOID(%q): %x, want %x", s, got, want)
	}
	if len(got) == 0 {
		return
	}
	x, e := der.Next(got, 0)
	if e != api.OK || x.Tag != 6 || x.Len != len(got) {
		t.Fatalf("Next(%x): %v, %d", got, x, e)
	}
	if back, e := der.OID(x.Body); back != s || e != api.OK {
		t.Fatalf("OID(%x): %q, %d, want %q", x.Body, back, e, s)
	}
}

func TestPutOIDOfAllShortTexts(t *testing.T) {
	texts([]byte("01234."), 6, func(b []byte) { putOID(t, string(b)) })
	texts([]byte("019.+-_ x"), 5, func(b []byte) { putOID(t, string(b)) })
}

func TestPutOIDAtTheEdges(t *testing.T) {
	for _, first := range []string{"0.0", "0.39", "1.39", "2.47", "2.48", "2.4294967215"} {
		for _, n := range []string{"", ".0", ".127", ".128", ".16383", ".16384", ".2097151", ".2097152", ".268435455", ".268435456", ".4294967295"} {
			if len(der.PutOID(first+n)) == 0 {
				t.Errorf("PutOID(%q): nothing", first+n)
			}
			putOID(t, first+n)
		}
	}
	for count := range 25 {
		putOID(t, "1"+strings.Repeat(".1", count))
		putOID(t, "2.4294967215"+strings.Repeat(".4294967295", count))
	}
	if len(der.PutOID("1"+strings.Repeat(".1", 16))) != 18 || len(der.PutOID("1"+strings.Repeat(".1", 17))) != 0 {
		t.Error("16 numbers may be, 17 not")
	}
}

func TestTextsOfNoOID(t *testing.T) {
	for _, s := range []string{
		"", ".", "..", "1", "1.", ".1", "1..2", "1.2.", "01.2", "1.02", "1.2.00", "1.2.03", "0.40", "1.40", "3.1", "3.0", "9.9", "4294967295.1", "4294967296.1", "2.4294967216", "2.4294967295", "2.4294967296", "0.4294967295", "1.2.4294967296", "1.2.99999999999999999999", "1.2.18446744073709551617", "+1.2", "1.+2", "-1.2", "1.-2", " 1.2", "1.2 ", "1.2\n", "1.2\x00", "1,2", "1_0.2", "1.1_0", "0x1.2", "1.0x2", "1.2.a", "1.2e1", "a.b", "\u0661.\u0662", "1.\xff", strings.Repeat("1.", 100000) + "1", strings.Repeat(".", 100000), strings.Repeat("1", 100000), "1." + strings.Repeat("0", 100000) + "1",
	} {
		if got := der.PutOID(s); len(got) != 0 {
			t.Errorf("PutOID(%.40q): %x", s, got)
		}
	}
}

func TestPutOIDIsNew(t *testing.T) {
	a, b := der.PutOID("1.2.3"), der.PutOID("1.2.3")
	spoil(a)
	if string(b) != "\x06\x02\x2a\x03" || string(der.PutOID("1.2.3")) != "\x06\x02\x2a\x03" {
		t.Errorf("%x", b)
	}
}
