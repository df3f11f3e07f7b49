package wire_test

import (
	"bytes"
	"context"
	"crypto/ed25519"
	"crypto/tls"
	"crypto/x509"
	"crypto/x509/pkix"
	"math/big"
	"slices"
	"testing"
	"time"

	"drawbridge/api"
	"drawbridge/wire"
)

// A talk of the library with itself, as QUIC has it, tells its messages as they are, in no record. The messages of both are read here.

// said is a message, and who said it.
type said struct {
	client bool
	t      api.MsgType
	body   []byte
}

func mayFail(t *testing.T, err error) {
	t.Helper()
	if err != nil {
		t.Fatal(err)
	}
}

func libraryCert(t *testing.T, name string) tls.Certificate {
	t.Helper()
	key := ed25519.NewKeyFromSeed(bytes.Repeat([]byte(name[:1]), 32))
	c := &x509.Certificate{
		SerialNumber: big.NewInt(1), Subject: pkix.Name{CommonName: name}, DNSNames: []string{name},
		NotBefore: time.Unix(1700000000, 0), NotAfter: time.Unix(2600000000, 0),
	}
	der, err := x509.CreateCertificate(nil, c, c, key.Public(), key)
	mayFail(t, err)
	return tls.Certificate{Certificate: [][]byte{der, der}, PrivateKey: key}
}

func libraryConf(c tls.Certificate, groups ...tls.CurveID) *tls.Config {
	return &tls.Config{
		Certificates: []tls.Certificate{c}, CurvePreferences: groups, NextProtos: []string{"h2", "x"}, MinVersion: tls.VersionTLS13,
		Time: func() time.Time { return time.Unix(1800000000, 0) },
	}
}

// both is a talk between two of the library.
type both struct {
	client, server *tls.QUICConn
	all            []said
	toClient       []byte // bytes of messages that are not whole yet
	toServer       []byte
}

// hear reads all messages that are whole.
func (x *both) hear(t *testing.T, client bool, b []byte) {
	t.Helper()
	held := &x.toClient
	if client {
		held = &x.toServer
	}
	for *held = append(*held, b...); ; {
		m, body, n, a := wire.Unframe(*held)
		if a != api.AlertNone {
			t.Fatalf("%x: %d", *held, a)
		}
		if n == 0 {
			return
		}
		if !bytes.Equal(wire.Frame(m, body), (*held)[:n]) {
			t.Fatalf("%x is framed otherwise", *held)
		}
		x.all = append(x.all, said{client, m, body})
		*held = (*held)[n:]
	}
}

// step does what one side wants to have done; false, if that is nothing.
func (x *both) step(t *testing.T, client bool) bool {
	t.Helper()
	me, other := x.server, x.client
	if client {
		me, other = x.client, x.server
	}
	switch e := me.NextEvent(); e.Kind {
	case tls.QUICNoEvent:
		return false
	case tls.QUICWriteData:
		x.hear(t, client, e.Data)
		mayFail(t, other.HandleData(e.Level, e.Data))
	case tls.QUICTransportParametersRequired:
		me.SetTransportParameters([]byte{})
	case tls.QUICHandshakeDone:
		if !client {
			mayFail(t, me.SendSessionTicket(tls.QUICSessionTicketOptions{}))
		}
	}
	return true
}

// talk are all messages of a talk, in order.
func talk(t *testing.T, client, server *tls.Config) []said {
	t.Helper()
	x := &both{
		client: tls.QUICClient(&tls.QUICConfig{TLSConfig: client}),
		server: tls.QUICServer(&tls.QUICConfig{TLSConfig: server}),
	}
	defer x.client.Close()
	defer x.server.Close()
	mayFail(t, x.client.Start(context.Background()))
	mayFail(t, x.server.Start(context.Background()))
	for x.step(t, true) || x.step(t, false) {
	}
	if !x.client.ConnectionState().HandshakeComplete || !x.server.ConnectionState().HandshakeComplete {
		t.Fatal("it is not done")
	}
	return x.all
}

// types are the types of messages, a client's below 0.
func types(all []said) (l []int) {
	for _, m := range all {
		n := int(m.t)
		if m.client {
			n = -n
		}
		l = append(l, n)
	}
	return l
}

// again: what is read is put again, byte for byte.
func again[T any](t *testing.T, b []byte, get func([]byte) (T, api.Alert), put func(T) []byte) T {
	t.Helper()
	v, a := get(b)
	if a != api.AlertNone || !bytes.Equal(put(v), b) {
		t.Fatalf("%x: %d, %+v, put again %x", b, a, v, put(v))
	}
	return v
}

// data is the data of an extension that is there.
func data[T any](t *testing.T, l []api.Ext, x uint16, get func([]byte) (T, api.Alert), put func(T) []byte) T {
	t.Helper()
	b, is := wire.Find(l, x)
	if !is {
		t.Fatalf("no extension %d in %+v", x, l)
	}
	return again(t, b, get, put)
}

func clientHello(t *testing.T, b []byte) api.Hello {
	t.Helper()
	h := again(t, b, wire.GetClientHello, wire.PutClientHello)
	name := data(t, h.Exts, api.ExtName, wire.GetName, wire.PutName)
	groups := data(t, h.Exts, api.ExtGroups, wire.GetList, wire.PutList)
	sigs := data(t, h.Exts, api.ExtSigs, wire.GetList, wire.PutList)
	alpn := data(t, h.Exts, api.ExtALPN, wire.GetALPN, wire.PutALPN)
	versions := data(t, h.Exts, api.ExtVersions, wire.GetVersions, wire.PutVersions)
	status, is := wire.Find(h.Exts, api.ExtStatus)
	if h.Legacy != 0x303 || !slices.Contains(h.Suites, 0x1301) || name != "a.b" || !slices.Contains(groups, api.GroupX25519) ||
		!slices.Contains(sigs, api.SigEd) || !slices.Equal(alpn, []string{"h2", "x"}) || !slices.Equal(versions, []uint16{api.Version}) ||
		!is || !bytes.Equal(status, []byte{1, 0, 0, 0, 0}) {
		t.Errorf("%+v", h)
	}
	return h
}

func serverHello(t *testing.T, b []byte) api.Hello {
	t.Helper()
	h := again(t, b, wire.GetServerHello, wire.PutServerHello)
	version := data(t, h.Exts, api.ExtVersions, wire.GetNumber, wire.PutNumber)
	if h.Legacy != 0x303 || len(h.Suites) != 1 || h.Suites[0]>>8 != 0x13 || version != api.Version {
		t.Errorf("%+v", h)
	}
	return h
}

func certificates(t *testing.T, b []byte, der []byte) []api.CertEntry {
	t.Helper()
	m := again(t, b, wire.GetCert, wire.PutCert)
	if len(m.Context) != 0 || len(m.Entries) != 2 || !bytes.Equal(m.Entries[0].Data, der) || !bytes.Equal(m.Entries[1].Data, der) {
		t.Fatalf("%+v", m)
	}
	return m.Entries
}

func signature(t *testing.T, b []byte) {
	t.Helper()
	if v := again(t, b, wire.GetVerify, wire.PutVerify); v.Alg != api.SigEd || len(v.Sig) != 64 {
		t.Errorf("%+v", v)
	}
}

func protocolTold(t *testing.T, b []byte) {
	t.Helper()
	l := again(t, b, wire.GetExts, wire.PutExts)
	if alpn := data(t, l, api.ExtALPN, wire.GetALPN, wire.PutALPN); !slices.Equal(alpn, []string{"h2"}) {
		t.Error(alpn)
	}
}

func TestTheLibraryTalks(t *testing.T) {
	of, mine := libraryCert(t, "a.b"), libraryCert(t, "client")
	of.OCSPStaple = []byte("a staple")
	client, server := libraryConf(mine, tls.X25519), libraryConf(of)
	client.ServerName, client.InsecureSkipVerify, client.ClientSessionCache = "a.b", true, tls.NewLRUClientSessionCache(9)
	server.ClientAuth = tls.RequireAnyClientCert
	all := talk(t, client, server)
	if !slices.Equal(types(all), []int{-1, 2, 8, 13, 11, 15, 20, -11, -15, -20, 4}) {
		t.Fatal(types(all))
	}
	h := clientHello(t, all[0].body)
	shares := data(t, h.Exts, api.ExtShares, wire.GetShares, wire.PutShares)
	if len(shares) != 1 || shares[0].Group != api.GroupX25519 || len(shares[0].Key) != 32 {
		t.Errorf("%+v", shares)
	}
	s := serverHello(t, all[1].body)
	share := data(t, s.Exts, api.ExtShares, wire.GetShare, wire.PutShare)
	if share.Group != api.GroupX25519 || len(share.Key) != 32 || s.Random == wire.Retry() || !bytes.Equal(s.Session, h.Session) {
		t.Errorf("%+v", s)
	}
	protocolTold(t, all[2].body)
	request := again(t, all[3].body, wire.GetRequest, wire.PutRequest)
	if sigs := data(t, request.Exts, api.ExtSigs, wire.GetList, wire.PutList); len(request.Context) != 0 || !slices.Contains(sigs, api.SigEd) {
		t.Errorf("%+v", request)
	}
	entries := certificates(t, all[4].body, of.Certificate[0])
	if staple := data(t, entries[0].Exts, api.ExtStatus, wire.GetStatus, wire.PutStatus); string(staple) != "a staple" {
		t.Errorf("%q", staple)
	}
	certificates(t, all[7].body, mine.Certificate[0])
	signature(t, all[5].body)
	signature(t, all[8].body)
	ticket := again(t, all[10].body, wire.GetTicket, wire.PutTicket)
	if ticket.Life == 0 || len(ticket.Ticket) == 0 {
		t.Errorf("%+v", ticket)
	}
	goesOn(t, client, server, ticket)
}

// goesOn: the next talk goes on with the ticket that was given.
func goesOn(t *testing.T, client, server *tls.Config, ticket api.TicketMsg) {
	t.Helper()
	all := talk(t, client, server)
	if !slices.Equal(types(all), []int{-1, 2, 8, 20, -20, 4}) {
		t.Fatal(types(all))
	}
	h := clientHello(t, all[0].body)
	modes := data(t, h.Exts, api.ExtModes, wire.GetModes, wire.PutModes)
	b, _ := wire.Find(h.Exts, api.ExtPSK)
	l, n, a := wire.GetPSKs(b)
	if !slices.Equal(modes, []byte{1}) || a != api.AlertNone || len(l) != 1 || !bytes.Equal(wire.PutPSKs(l), b) {
		t.Fatalf("%d, %+v, %d", modes, l, a)
	}
	if !bytes.Equal(l[0].Ticket, ticket.Ticket) || l[0].Age != ticket.Add || n != 3+len(l[0].Binder) {
		t.Errorf("%+v, %d binders", l, n)
	}
	if h.Exts[len(h.Exts)-1].Type != api.ExtPSK {
		t.Errorf("%+v", h.Exts)
	}
	s := serverHello(t, all[1].body)
	if place := data(t, s.Exts, api.ExtPSK, wire.GetNumber, wire.PutNumber); place != 0 {
		t.Error(place)
	}
	protocolTold(t, all[2].body)
}

func TestTheLibraryAsksForAnotherHello(t *testing.T) {
	of := libraryCert(t, "a.b")
	client, server := libraryConf(of, tls.X25519, tls.CurveP256), libraryConf(of, tls.CurveP256)
	client.ServerName, client.InsecureSkipVerify = "a.b", true
	all := talk(t, client, server)
	if !slices.Equal(types(all), []int{-1, 2, -1, 2, 8, 11, 15, 20, -20, 4}) {
		t.Fatal(types(all))
	}
	asks := serverHello(t, all[1].body)
	if group := data(t, asks.Exts, api.ExtShares, wire.GetNumber, wire.PutNumber); asks.Random != wire.Retry() || group != api.GroupP256 {
		t.Errorf("%+v", asks)
	}
	h := clientHello(t, all[2].body)
	shares := data(t, h.Exts, api.ExtShares, wire.GetShares, wire.PutShares)
	if len(shares) != 1 || shares[0].Group != api.GroupP256 || len(shares[0].Key) != 65 {
		t.Errorf("%+v", shares)
	}
	s := serverHello(t, all[3].body)
	if share := data(t, s.Exts, api.ExtShares, wire.GetShare, wire.PutShare); s.Random == wire.Retry() || share.Group != api.GroupP256 || len(share.Key) != 65 {
		t.Errorf("%+v", share)
	}
}
