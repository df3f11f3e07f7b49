package wire_test

import (
	"bytes"
	"strings"
	"testing"

	"drawbridge/api"
	"drawbridge/wire"
)

// bounds: of how much has a thing bytes? From least on, up to most.
func bounds[T any](t *testing.T, what string, least, most int, of func(n int) T, put func(T) []byte, get func([]byte) (T, api.Alert)) {
	t.Helper()
	for _, n := range []int{0, least - 1, least, least + 1, most - 1, most, most + 1, most + 2, 2*most + 1, most + 65536} {
		if n < 0 {
			continue
		}
		v := of(n)
		b := put(v)
		if (len(b) > 0) != within(n, least, most) {
			t.Errorf("%s of %d: %d bytes", what, n, len(b))
			continue
		}
		if len(b) == 0 {
			continue
		}
		if got, a := get(b); a != api.AlertNone || !same(got, v) {
			t.Errorf("%s of %d: %d", what, n, a)
		}
		if _, a := get(b[:len(b)-1]); a != api.AlertDecode {
			t.Errorf("%s of %d, cut off: %d", what, n, a)
		}
		if _, a := get(append(b, 0)); a != api.AlertDecode {
			t.Errorf("%s of %d, and something behind: %d", what, n, a)
		}
	}
}

// filler are n bytes, hardly any alike.
func filler(n int) []byte {
	b := make([]byte, n)
	for i := range b {
		b[i] = byte(i ^ i>>8 ^ i>>16)
	}
	return b
}

func counted(n int) []uint16 {
	l := make([]uint16, n)
	for i := range l {
		l[i] = uint16(i)
	}
	return l
}

func oneExt(n int) []api.Ext { return []api.Ext{{Type: 7, Data: filler(n)}} }

// manyExts are n extensions of unlike types, but that there are only so many types.
func manyExts(n int) []api.Ext {
	l := make([]api.Ext, n)
	for i := range l {
		l[i].Type = uint16(n - i)
	}
	return l
}

func TestBoundsOfHellos(t *testing.T) {
	client := func(change func(h *api.Hello, n int)) func(n int) api.Hello {
		return func(n int) api.Hello {
			h := api.Hello{Legacy: 0x303, Session: filler(5), Suites: []uint16{1}}
			change(&h, n)
			return h
		}
	}
	session := client(func(h *api.Hello, n int) { h.Session = filler(n) })
	suites := client(func(h *api.Hello, n int) { h.Suites = counted(n) })
	long := client(func(h *api.Hello, n int) { h.Exts = oneExt(n) })
	many := client(func(h *api.Hello, n int) { h.Exts = manyExts(n) })
	bounds(t, "a session", 0, 32, session, wire.PutClientHello, wire.GetClientHello)
	bounds(t, "a session", 0, 32, session, wire.PutServerHello, wire.GetServerHello)
	bounds(t, "suites", 1, 32767, suites, wire.PutClientHello, wire.GetClientHello)
	bounds(t, "suites", 1, 1, suites, wire.PutServerHello, wire.GetServerHello)
	bounds(t, "data", 0, 65531, long, wire.PutClientHello, wire.GetClientHello)
	bounds(t, "data", 0, 65531, long, wire.PutServerHello, wire.GetServerHello)
	bounds(t, "extensions", 0, 16383, many, wire.PutServerHello, wire.GetServerHello)
	bounds(t, "data", 0, 65531, oneExt, wire.PutExts, wire.GetExts)
	bounds(t, "extensions", 0, 16383, manyExts, wire.PutExts, wire.GetExts)
}

func TestBoundsOfMessages(t *testing.T) {
	context := func(n int) api.CertMsg { return api.CertMsg{Context: filler(n)} }
	bounds(t, "a context", 0, 255, context, wire.PutCert, wire.GetCert)
	data := func(n int) api.CertMsg { return api.CertMsg{Entries: []api.CertEntry{{Data: filler(n)}}} }
	bounds(t, "a certificate", 1, 1<<24-1-5, data, wire.PutCert, wire.GetCert)
	second := func(n int) api.CertMsg {
		return api.CertMsg{Entries: []api.CertEntry{{Data: filler(1 << 23)}, {Data: filler(n), Exts: oneExt(1)}}}
	}
	bounds(t, "a second certificate", 1, 1<<24-1-5-1<<23-10, second, wire.PutCert, wire.GetCert)
	entryExts := func(n int) api.CertMsg {
		return api.CertMsg{Entries: []api.CertEntry{{Data: []byte{1}, Exts: oneExt(n)}}}
	}
	bounds(t, "a certificate's data", 0, 65531, entryExts, wire.PutCert, wire.GetCert)
	request := func(n int) api.Request { return api.Request{Context: filler(n)} }
	bounds(t, "a request's context", 0, 255, request, wire.PutRequest, wire.GetRequest)
	requestExts := func(n int) api.Request { return api.Request{Exts: oneExt(n)} }
	bounds(t, "a request's data", 0, 65531, requestExts, wire.PutRequest, wire.GetRequest)
	signature := func(n int) api.Verified { return api.Verified{Sig: filler(n)} }
	bounds(t, "a signature", 0, 65535, signature, wire.PutVerify, wire.GetVerify)
	nonce := func(n int) api.TicketMsg { return api.TicketMsg{Nonce: filler(n), Ticket: []byte{1}} }
	bounds(t, "a nonce", 0, 255, nonce, wire.PutTicket, wire.GetTicket)
	ticket := func(n int) api.TicketMsg { return api.TicketMsg{Ticket: filler(n)} }
	bounds(t, "a ticket", 1, 65535, ticket, wire.PutTicket, wire.GetTicket)
	ticketExts := func(n int) api.TicketMsg { return api.TicketMsg{Ticket: []byte{1}, Exts: manyExts(n)} }
	bounds(t, "a ticket's extensions", 0, 16383, ticketExts, wire.PutTicket, wire.GetTicket)
}

func TestBoundsOfData(t *testing.T) {
	bounds(t, "a name", 1, 65532, func(n int) string { return string(filler(n)) }, wire.PutName, wire.GetName)
	bounds(t, "a list", 1, 32767, counted, wire.PutList, wire.GetList)
	bounds(t, "versions", 1, 127, counted, wire.PutVersions, wire.GetVersions)
	bounds(t, "a protocol", 1, 255, func(n int) []string { return []string{string(filler(n))} }, wire.PutALPN, wire.GetALPN)
	bounds(t, "protocols", 1, 32767, func(n int) []string { return strings.Split(strings.Repeat("x", n), "") }, wire.PutALPN, wire.GetALPN)
	second := func(n int) []string { return []string{"a", strings.Repeat("b", n), "c"} }
	bounds(t, "a second protocol", 1, 255, second, wire.PutALPN, wire.GetALPN)
	bounds(t, "modes", 1, 255, filler, wire.PutModes, wire.GetModes)
	share := func(n int) api.Share { return api.Share{Group: 29, Key: filler(n)} }
	bounds(t, "a share", 1, 65535, share, wire.PutShare, wire.GetShare)
	bounds(t, "a share alone", 1, 65531, func(n int) []api.Share { return []api.Share{share(n)} }, wire.PutShares, wire.GetShares)
	shares := func(n int) (l []api.Share) {
		for i := range n {
			l = append(l, api.Share{Group: uint16(i), Key: filler(1)})
		}
		return l
	}
	bounds(t, "shares", 0, 13107, shares, wire.PutShares, wire.GetShares)
	bounds(t, "a cookie", 1, 65535, filler, wire.PutCookie, wire.GetCookie)
	bounds(t, "a staple", 1, 1<<24-1, filler, wire.PutStatus, wire.GetStatus)
}

func TestBoundsOfTickets(t *testing.T) {
	get := func(b []byte) ([]api.PSK, api.Alert) {
		l, n, a := wire.GetPSKs(b)
		if a == api.AlertNone && n != bindersLen(l) || a != api.AlertNone && n != 0 {
			t.Errorf("%d binders: %d", len(l), n)
		}
		return l, a
	}
	one := func(ticket, binder int) []api.PSK {
		return []api.PSK{{Ticket: filler(ticket), Age: 3, Binder: filler(binder)}}
	}
	many := func(ticket, binder int) func(n int) []api.PSK {
		return func(n int) (l []api.PSK) {
			for i := range n {
				l = append(l, api.PSK{Ticket: filler(ticket), Age: uint32(i), Binder: filler(binder)})
			}
			return l
		}
	}
	bounds(t, "a ticket", 1, 65529, func(n int) []api.PSK { return one(n, 32) }, wire.PutPSKs, get)
	bounds(t, "a binder", 32, 255, func(n int) []api.PSK { return one(1, n) }, wire.PutPSKs, get)
	bounds(t, "tickets, by their binders", 1, 65535/33, many(1, 32), wire.PutPSKs, get)
	bounds(t, "tickets, by themselves", 1, 65535/206, many(200, 32), wire.PutPSKs, get)
}

// A number of extensions that is greater than that of types has twins.
func TestMoreThanAllTypes(t *testing.T) {
	if len(wire.PutExts(manyExts(1<<16+1))) != 0 || len(wire.PutExts(make([]api.Ext, 1<<20))) != 0 {
		t.Error("there are twins")
	}
}

// What is far too long is refused as soon as that is seen, not written first.
func TestFarTooLong(t *testing.T) {
	long := make([]byte, 1<<20)
	name := string(long)
	entries := make([]api.CertEntry, 1<<18)
	exts := make([]api.Ext, 1<<16)
	shares := make([]api.Share, 1<<18)
	psks := make([]api.PSK, 1<<18)
	names := make([]string, 1<<18)
	for i := range entries {
		entries[i].Data, shares[i].Key, psks[i].Ticket, psks[i].Binder, names[i] = long, long[:60000], long[:60000], long[:255], name[:255]
	}
	for i := range exts {
		exts[i] = api.Ext{Type: uint16(i), Data: long[:65535]}
	}
	for what, b := range map[string][]byte{
		"certificates": wire.PutCert(api.CertMsg{Entries: entries}),
		"extensions":   wire.PutExts(exts),
		"a request":    wire.PutRequest(api.Request{Context: long, Exts: exts}),
		"a hello":      wire.PutClientHello(api.Hello{Session: long, Suites: make([]uint16, 1<<20), Exts: exts}),
		"another one":  wire.PutServerHello(api.Hello{Session: long, Suites: make([]uint16, 1<<20), Exts: exts}),
		"shares":       wire.PutShares(shares),
		"tickets":      wire.PutPSKs(psks),
		"protocols":    wire.PutALPN(names),
		"a name":       wire.PutName(name),
		"a ticket":     wire.PutTicket(api.TicketMsg{Nonce: long, Ticket: long, Exts: exts}),
		"a signature":  wire.PutVerify(api.Verified{Sig: long}),
		"a staple":     wire.PutStatus(make([]byte, 1<<24)),
	} {
		if len(b) != 0 {
			t.Errorf("%s: %d bytes", what, len(b))
		}
	}
}

// The longest list there is, of the shortest parts, each with extensions of its own.
func TestMostCertificates(t *testing.T) {
	entry := []byte{0, 0, 1, 7, 0, 0}
	n := (1<<24 - 1) / len(entry)
	body := bytes.Repeat(entry, n)
	head := []byte{0, byte(len(body) >> 16), byte(len(body) >> 8), byte(len(body))}
	b := append(head, body...)
	m, a := wire.GetCert(b)
	if a != api.AlertNone || len(m.Entries) != n || !bytes.Equal(wire.PutCert(m), b) {
		t.Error(len(m.Entries), a)
	}
	if m, a = wire.GetCert(b[:len(b)-1]); a != api.AlertDecode || len(m.Entries) != 0 {
		t.Error(len(m.Entries), a)
	}
}
