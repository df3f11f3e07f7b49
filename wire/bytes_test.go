package wire_test

import (
	"bytes"
	"strings"
	"testing"

	"drawbridge/api"
	"drawbridge/wire"
)

// stands: are a thing's bytes those that digits tell (blanks between them are no matter), there and back?
func stands[T any](t *testing.T, v T, put func(T) []byte, get func([]byte) (T, api.Alert), digits string) {
	t.Helper()
	want := of(t, strings.ReplaceAll(digits, " ", ""))
	if b := put(v); !bytes.Equal(b, want) {
		t.Errorf("put: %x, want %x", b, want)
	}
	if got, a := get(want); a != api.AlertNone || !same(got, v) {
		t.Errorf("get: %+v, %d, want %+v", got, a, v)
	}
}

func TestBytesOfHellos(t *testing.T) {
	var random [32]byte
	for i := range random {
		random[i] = byte(i)
	}
	const digits = "000102030405060708090a0b0c0d0e0f101112131415161718191a1b1c1d1e1f"
	h := api.Hello{Legacy: 0x0303, Random: random, Session: []byte{7, 8}, Suites: []uint16{0x1301, 0x1303}}
	stands(t, h, wire.PutClientHello, wire.GetClientHello, "0303"+digits+"02 0708 0004 1301 1303 01 00 0000")
	h.Exts = []api.Ext{{Type: 0x2b, Data: []byte{2, 3, 4}}, {Type: 0xff01}, {Type: 41, Data: []byte{9}}}
	stands(t, h, wire.PutClientHello, wire.GetClientHello, "0303"+digits+"02 0708 0004 1301 1303 01 00 0010 002b 0003 020304 ff01 0000 0029 0001 09")
	h.Suites, h.Legacy = []uint16{0x1302}, 0x0102
	stands(t, h, wire.PutServerHello, wire.GetServerHello, "0102"+digits+"02 0708 1302 00 0010 002b 0003 020304 ff01 0000 0029 0001 09")
	h.Exts, h.Session = nil, nil
	stands(t, h, wire.PutServerHello, wire.GetServerHello, "0102"+digits+"00 1302 00 0000")
	stands(t, h, wire.PutClientHello, wire.GetClientHello, "0102"+digits+"00 0002 1302 01 00 0000")
}

func TestBytesOfMessages(t *testing.T) {
	exts := []api.Ext{{Type: 0x0102, Data: []byte{3}}, {Type: 5}}
	const digits = "0009 0102 0001 03 0005 0000"
	stands(t, nil, wire.PutExts, wire.GetExts, "0000")
	stands(t, exts, wire.PutExts, wire.GetExts, digits)
	stands(t, api.CertMsg{}, wire.PutCert, wire.GetCert, "00 000000")
	m := api.CertMsg{Context: []byte{1, 2}, Entries: []api.CertEntry{{Data: []byte{7}, Exts: exts}, {Data: []byte{8, 9}}}}
	stands(t, m, wire.PutCert, wire.GetCert, "02 0102 000016 000001 07"+digits+"000002 0809 0000")
	stands(t, api.Request{Exts: exts}, wire.PutRequest, wire.GetRequest, "00"+digits)
	stands(t, api.Request{Context: []byte{4}}, wire.PutRequest, wire.GetRequest, "01 04 0000")
	stands(t, api.Verified{Alg: 0x0807, Sig: []byte{1, 2, 3}}, wire.PutVerify, wire.GetVerify, "0807 0003 010203")
	stands(t, api.Verified{Alg: 0x0403}, wire.PutVerify, wire.GetVerify, "0403 0000")
	k := api.TicketMsg{Life: 0x01020304, Add: 0xfffefdfc, Nonce: []byte{0}, Ticket: []byte{5, 6}, Exts: exts}
	stands(t, k, wire.PutTicket, wire.GetTicket, "01020304 fffefdfc 01 00 0002 0506"+digits)
	stands(t, api.TicketMsg{Life: 1, Ticket: []byte{0}}, wire.PutTicket, wire.GetTicket, "00000001 00000000 00 0001 00 0000")
}

func TestBytesOfData(t *testing.T) {
	stands(t, "a.b", wire.PutName, wire.GetName, "0006 00 0003 612e62")
	stands(t, []uint16{29, 0x1234}, wire.PutList, wire.GetList, "0004 001d 1234")
	stands(t, []uint16{0x0304, 0x0303}, wire.PutVersions, wire.GetVersions, "04 0304 0303")
	stands(t, []string{"h2", "x"}, wire.PutALPN, wire.GetALPN, "0005 02 6832 01 78")
	stands(t, []byte{1, 0}, wire.PutModes, wire.GetModes, "02 0100")
	stands(t, nil, wire.PutShares, wire.GetShares, "0000")
	stands(t, []api.Share{{Group: 29, Key: []byte{1, 2}}, {Group: 23, Key: []byte{4}}}, wire.PutShares, wire.GetShares, "000b 001d 0002 0102 0017 0001 04")
	stands(t, api.Share{Group: 29, Key: []byte{1, 2}}, wire.PutShare, wire.GetShare, "001d 0002 0102")
	stands(t, 0x0102, wire.PutNumber, wire.GetNumber, "0102")
	stands(t, []byte{1, 2}, wire.PutCookie, wire.GetCookie, "0002 0102")
	stands(t, []byte{1, 2}, wire.PutStatus, wire.GetStatus, "01 000002 0102")
}

func TestBytesOfTickets(t *testing.T) {
	binder := strings.Repeat("ab", 32)
	longer := strings.Repeat("cd", 48)
	l := []api.PSK{
		{Ticket: []byte{1, 2}, Age: 0x01020304, Binder: of(t, binder)},
		{Ticket: []byte{3}, Age: 0xfffefdfc, Binder: of(t, longer)},
	}
	for n, digits := range map[int]string{
		1: "0008 0002 0102 01020304 0021 20" + binder,
		2: "000f 0002 0102 01020304 0001 03 fffefdfc 0052 20" + binder + "30" + longer,
	} {
		get := func(b []byte) ([]api.PSK, api.Alert) {
			got, binders, a := wire.GetPSKs(b)
			if want := bindersLen(l[:n]); binders != want {
				t.Errorf("%d binders: %d, want %d", n, binders, want)
			}
			return got, a
		}
		stands(t, l[:n], wire.PutPSKs, get, digits)
	}
}

// refuses: what comes of bytes that a thing has not is nothing.
func refuses[T any](t *testing.T, get func([]byte) (T, api.Alert), alert api.Alert, digits ...string) {
	t.Helper()
	for _, d := range digits {
		var none T
		if got, a := get(of(t, strings.ReplaceAll(d, " ", ""))); a != alert || !same(got, none) {
			t.Errorf("%s: %+v, %d, want %d", d, got, a, alert)
		}
	}
}

func TestRefusesData(t *testing.T) {
	const decode, illegal = api.AlertDecode, api.AlertIllegal
	refuses(t, wire.GetList, decode, "", "00", "0000", "0001 00", "0002 00", "0003 000102", "0003 0001", "0002 0001 00")
	refuses(t, wire.GetVersions, decode, "", "00", "01 03", "02 03", "02 0304 00", "03 030403")
	refuses(t, wire.GetALPN, decode, "", "0000", "0001 00", "0002 0161 00", "0003 0161 00", "0003 00 0161", "0002 0261")
	refuses(t, wire.GetModes, decode, "", "00", "01", "01 0101", "02 01")
	refuses(t, wire.GetShares, decode, "", "00", "0001 00", "0004 001d 0000", "0005 001d 0002 01", "0006 001d 0001 01 02", "0000 00")
	refuses(t, wire.GetShare, decode, "", "001d", "001d 0000", "001d 0001", "001d 0001 0101")
	refuses(t, wire.GetNumber, decode, "", "00", "000000")
	refuses(t, wire.GetCookie, decode, "", "0000", "0001", "0001 0101")
	refuses(t, wire.GetName, decode, "", "0000", "0003 00 0000", "0004 00 0002 61", "0005 00 0001 61 00", "0004 00 0001 61 00", "0008 00 0001 61 00 0001 61", "0001 00", "0001 01")
	refuses(t, wire.GetName, illegal, "0004 01 0001 61", "0004 ff 0001 61", "0006 01 0003 612e62")
	refuses(t, wire.GetName, decode, "0003 01 0000", "0004 01 0001 61 00", "0008 01 0001 61 00 0001 61")
	refuses(t, wire.GetStatus, decode, "", "01", "01 000000", "01 000001", "01 000001 0101", "01 0001 01")
	refuses(t, wire.GetStatus, illegal, "00 000001 01", "02 000001 01", "ff 000002 0101")
	refuses(t, wire.GetStatus, decode, "00 000000", "02 000001", "02 000001 0101")
}

func TestRefusesTickets(t *testing.T) {
	const ticket = "0001 03 00000000"
	b31, b32 := strings.Repeat("ab", 31), strings.Repeat("ab", 32)
	for what, digits := range map[string]string{
		"nothing":                "",
		"no tickets":             "0000 0000",
		"no binders":             "0007" + ticket + "0000",
		"binders left out":       "0007" + ticket,
		"a ticket of no bytes":   "0006 0000 00000000 0021 20" + b32,
		"a short binder":         "0007" + ticket + "0020 1f" + b31,
		"two binders":            "0007" + ticket + "0042 20" + b32 + "20" + b32,
		"one binder":             "000e" + ticket + ticket + "0021 20" + b32,
		"binders, but no ticket": "0000 0021 20" + b32,
		"half an age":            "0005 0001 03 0000 0021 20" + b32,
		"something behind":       "0007" + ticket + "0021 20" + b32 + "00",
	} {
		l, n, a := wire.GetPSKs(of(t, strings.ReplaceAll(digits, " ", "")))
		if len(l) != 0 || n != 0 || a != api.AlertDecode {
			t.Errorf("%s: %+v, %d, %d", what, l, n, a)
		}
	}
}

func TestRefusesMessages(t *testing.T) {
	const decode, illegal = api.AlertDecode, api.AlertIllegal
	start := "0303" + strings.Repeat("11", 32)
	session33 := "21" + strings.Repeat("22", 33)
	refuses(t, wire.GetClientHello, decode,
		"", start, start+"00 0000 01 00 0000", start+"00 0003 130113 01 00 0000", start+session33+"0002 1301 01 00 0000",
		start+"00 0002 1301 00 0000", start+"00 0002 1301 02 0000 0000", start+"00 0002 1301 02 0001 0000",
		start+"00 0002 1301 01 00", start+"00 0002 1301 01 00 0000 00", start+"00 0002 1301 01 00 0003 000100")
	refuses(t, wire.GetClientHello, illegal,
		start+"00 0002 1301 01 01 0000", start+"00 0002 1301 01 ff 0000",
		start+"00 0002 1301 01 00 0008 0001 0000 0001 0000", start+"00 0002 1301 01 00 0008 0029 0000 0001 0000",
		start+"00 0002 1301 01 00 0008 0029 0000 0029 0000", start+"00 0002 1301 01 00 000c 0001 0000 0029 0000 0002 0000")
	// Both are so: what may not be stands ahead of what is cut off, or the other way round.
	refuses(t, wire.GetClientHello, decode,
		start+"00 0002 1301 01 01 0000 00", start+"00 0002 1301 01 01", start+"00 0000 01 01 0000",
		start+"00 0002 1301 01 01 0003 000100", start+"00 0002 1301 02 0100 0000",
		start+"00 0002 1301 01 00 0009 0001 0000 0001 0000 00", start+"00 0002 1301 01 00 0008 0029 0000 0001 0000 00",
		start+session33+"0002 1301 01 01 0000")
	refuses(t, wire.GetServerHello, decode, "", start, start+"00 1301 00", start+"00 1301 00 0000 00", start+session33+"1301 00 0000", start+"00 1301 01 0000 00", start+"00 1301 01")
	refuses(t, wire.GetServerHello, illegal, start+"00 1301 01 0000", start+"00 1301 80 0000", start+"00 1301 00 0008 0033 0000 0033 0000")
	refuses(t, wire.GetExts, illegal, "0008 0001 0000 0001 0000", "000d 0001 0000 0002 0001 00 0001 0000")
	refuses(t, wire.GetExts, decode, "", "00", "0000 00", "0001 00", "0003 000100", "0004 0001 0001", "0009 0001 0000 0001 0000 00", "0008 0001 0000 0001 0001")
	refuses(t, wire.GetCert, decode, "", "00", "00 0000", "00 000000 00", "00 000005 000000 0000", "00 000006 000001 01 00", "00 000004 000001 01", "01 000000")
	refuses(t, wire.GetCert, illegal, "00 00000e 000001 01 0008 0001 0000 0001 0000", "00 000014 000001 01 0008 0001 0000 0001 0000 000001 02 0000")
	refuses(t, wire.GetCert, decode, "00 000013 000001 01 0008 0001 0000 0001 0000 000000 0000")
	refuses(t, wire.GetRequest, decode, "", "00", "0000", "00 0000 00", "01 0000", "01")
	refuses(t, wire.GetRequest, illegal, "00 0008 000d 0000 000d 0000")
	refuses(t, wire.GetVerify, decode, "", "08", "0807", "0807 00", "0807 0001", "0807 0001 0101")
	refuses(t, wire.GetTicket, decode, "", "00000001 00000000 00 0000 0000", "00000001 00000000 00 0001 00", "00000001 00000000 01 0001 00 0000", "00000001 00000000 00 0001 00 0000 00", "000001 00000000 00 0001 00 0000")
	refuses(t, wire.GetTicket, illegal, "00000001 00000000 00 0001 00 0008 002a 0000 002a 0000")
}

// One type may stand in unlike entries' extensions.
func TestTypesOfUnlikeEntries(t *testing.T) {
	x := []api.Ext{{Type: 5}}
	m := api.CertMsg{Entries: []api.CertEntry{{Data: []byte{1}, Exts: x}, {Data: []byte{2}, Exts: x}}}
	if got, a := wire.GetCert(wire.PutCert(m)); a != api.AlertNone || !same(got, m) {
		t.Errorf("%+v, %d", got, a)
	}
}

// In other bodies than a client's hello it is no matter where tickets stand.
func TestTicketsStandLastInAHelloAlone(t *testing.T) {
	l := []api.Ext{{Type: 41}, {Type: 1}}
	if len(wire.PutExts(l)) == 0 || len(wire.PutServerHello(api.Hello{Suites: []uint16{1}, Exts: l})) == 0 ||
		len(wire.PutRequest(api.Request{Exts: l})) == 0 || len(wire.PutTicket(api.TicketMsg{Ticket: []byte{1}, Exts: l})) == 0 ||
		len(wire.PutCert(api.CertMsg{Entries: []api.CertEntry{{Data: []byte{1}, Exts: l}}})) == 0 {
		t.Error("they can't be put")
	}
	for i := range 4 {
		l := []api.Ext{{Type: 1}, {Type: 2}, {Type: 3}, {Type: 4}}
		l[i].Type = 41
		if b := wire.PutClientHello(api.Hello{Suites: []uint16{1}, Exts: l}); (len(b) != 0) != (i == 3) {
			t.Error(i, b)
		}
	}
}
