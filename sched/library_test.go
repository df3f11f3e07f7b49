package sched_test

import (
	"bytes"
	"crypto/ecdh"
	"crypto/ed25519"
	"crypto/tls"
	"crypto/x509"
	"crypto/x509/pkix"
	"encoding/hex"
	"io"
	"math/big"
	"net"
	"strings"
	"sync"
	"testing"
	"time"

	"drawbridge/api"
	"drawbridge/record"
	"drawbridge/sched"
	"drawbridge/wire"
)

// A client that reckons by this package alone talks with a server of the library.

// secrets are those that the library tells, by their names.
type secrets struct {
	mu  sync.Mutex
	all map[string][]byte
}

func (s *secrets) Write(line []byte) (int, error) {
	s.mu.Lock()
	defer s.mu.Unlock()
	if words := strings.Fields(string(line)); len(words) == 3 {
		secret, err := hex.DecodeString(words[2])
		if err != nil {
			return 0, err
		}
		s.all[words[0]] = secret
	}
	return len(line), nil
}

func (s *secrets) named(name string) []byte {
	s.mu.Lock()
	defer s.mu.Unlock()
	return s.all[name]
}

// serverConf is a server that has just this group.
func serverConf(t *testing.T, told *secrets, group tls.CurveID) *tls.Config {
	t.Helper()
	key := ed25519.NewKeyFromSeed(make([]byte, 32))
	c := &x509.Certificate{
		SerialNumber: big.NewInt(1), Subject: pkix.Name{CommonName: "a.b"}, DNSNames: []string{"a.b"},
		NotBefore: time.Unix(1700000000, 0), NotAfter: time.Unix(2600000000, 0),
	}
	der, err := x509.CreateCertificate(nil, c, c, key.Public(), key)
	if err != nil {
		t.Fatal(err)
	}
	return &tls.Config{
		Certificates: []tls.Certificate{{Certificate: [][]byte{der}, PrivateKey: key}}, MinVersion: tls.VersionTLS13,
		CurvePreferences: []tls.CurveID{group}, KeyLogWriter: told, Time: func() time.Time { return time.Unix(1800000000, 0) },
	}
}

// echo is a server that says again what it is told; it answers whether it went on with a ticket.
func echo(t *testing.T, conn net.Conn, conf *tls.Config) bool {
	c := tls.Server(conn, conf)
	defer c.Close()
	if err := c.Handshake(); err != nil {
		t.Error(err)
		return false
	}
	b := make([]byte, 1000)
	for {
		n, err := c.Read(b)
		if err != nil {
			if err != io.EOF {
				t.Error(err)
			}
			return c.ConnectionState().DidResume
		}
		if _, err := c.Write(b[:n]); err != nil {
			t.Error(err)
			return false
		}
	}
}

// saved is a ticket of the library's, and its secret.
type saved struct {
	ticket, secret []byte
}

// talk is the client.
type talk struct {
	t            *testing.T
	conn         net.Conn
	out          chan []byte // what goes to the server: it may have something to say itself ahead of reading it
	w            *record.Writer
	x            *record.Reader
	told         *secrets
	suite        api.Suite
	h            api.Hash
	said         *sched.Transcript
	held         []byte
	random       [32]byte
	use          *saved
	own, other   []byte // secrets
	early, after []byte // Early; and Master's `res master`
}

func newTalk(t *testing.T, conn net.Conn, told *secrets, by api.Suite, use *saved) *talk {
	x := record.NewReader()
	x.Quiet(true)
	return &talk{
		t: t, conn: conn, out: make(chan []byte, 100), w: record.NewWriter(), x: x, told: told, suite: by, h: hashOf(by),
		said: sched.NewTranscript(), random: [32]byte{1, 2, 3}, use: use,
	}
}

func (c *talk) must(is bool, why ...any) {
	c.t.Helper()
	if !is {
		c.t.Fatal(why...)
	}
}

// says writes bytes as a record.
func (c *talk) says(content api.Content, b []byte) {
	c.t.Helper()
	out, e := c.w.Write(content, b, 0)
	c.must(e == api.OK, e)
	c.out <- out
}

// hears is what the next record has.
func (c *talk) hears(want api.Content) []byte {
	c.t.Helper()
	b := make([]byte, 1000)
	for {
		content, text, is, a := c.x.Next()
		c.must(a == api.AlertNone, "the alert", a)
		if is {
			c.must(content == want, "content", content, text)
			return text
		}
		n, err := c.conn.Read(b)
		c.must(err == nil, err)
		c.must(c.x.Feed(b[:n]) == n, "too much")
	}
}

// message is the next message: its body, and all of it.
func (c *talk) message(want api.MsgType) (body, whole []byte) {
	c.t.Helper()
	for {
		m, body, n, a := wire.Unframe(c.held)
		c.must(a == api.AlertNone, a)
		if n > 0 {
			c.must(m == want, "message", m)
			whole, c.held = c.held[:n], c.held[n:]
			return body, whole
		}
		c.held = append(c.held, c.hears(api.ContentHandshake)...)
	}
}

// takes puts a secret in the writer, or the reader.
func (c *talk) takes(own bool, secret []byte) {
	c.t.Helper()
	key, iv, e := sched.Keys(c.suite, secret)
	c.must(e == api.OK, e)
	if own {
		c.own = secret
		c.must(c.w.Key(c.suite, key, iv, 0) == api.OK, "own key")
		return
	}
	c.other = secret
	c.must(c.x.Key(c.suite, key, iv) == api.OK, "other key")
}

// step is a secret of a name, which must be what the library tells.
func (c *talk) step(secret []byte, label, name string) []byte {
	c.t.Helper()
	got := sched.Derive(c.h, secret, label, c.said.Sum(c.h))
	c.must(bytes.Equal(got, c.told.named(name)), label, "is another one")
	return got
}

// helloOf is a hello's message with a share of one group, with a ticket and this binder, if there is one to be used.
func (c *talk) helloOf(share api.Share, binder []byte) (message []byte, binders int) {
	c.t.Helper()
	exts := []api.Ext{
		{Type: api.ExtName, Data: wire.PutName("a.b")},
		{Type: api.ExtGroups, Data: wire.PutList([]uint16{api.GroupX25519, api.GroupP256})},
		{Type: api.ExtSigs, Data: wire.PutList([]uint16{api.SigEd, api.SigP256})},
		{Type: api.ExtVersions, Data: wire.PutVersions([]uint16{api.Version})},
		{Type: api.ExtModes, Data: wire.PutModes([]byte{1})},
		{Type: api.ExtShares, Data: wire.PutShares([]api.Share{share})},
	}
	if c.use != nil {
		data := wire.PutPSKs([]api.PSK{{Ticket: c.use.ticket, Age: 77, Binder: binder}})
		_, n, a := wire.GetPSKs(data)
		c.must(a == api.AlertNone, a)
		binders = n
		exts = append(exts, api.Ext{Type: api.ExtPSK, Data: data})
	}
	b := wire.PutClientHello(api.Hello{Legacy: 0x0303, Random: c.random, Session: make([]byte, 32), Suites: []uint16{uint16(c.suite)}, Exts: exts})
	c.must(b != nil, "no hello")
	return wire.Frame(api.MsgClientHello, b), binders
}

// hello says one.
func (c *talk) hello(share api.Share) {
	c.t.Helper()
	binder := make([]byte, size(c.h))
	message, binders := c.helloOf(share, binder)
	if c.use != nil {
		sum := c.said.With(c.h, message[:len(message)-binders])
		message, _ = c.helloOf(share, sched.Binder(c.h, c.use.secret, sum))
	}
	c.said.Add(message)
	c.says(api.ContentHandshake, message)
}

func curve(group uint16) ecdh.Curve {
	if group == api.GroupP256 {
		return ecdh.P256()
	}
	return ecdh.X25519()
}

// begins says hellos till one is answered: the secret that both share.
func (c *talk) begins() []byte {
	c.t.Helper()
	group := uint16(api.GroupX25519)
	for range 2 {
		private, err := curve(group).NewPrivateKey(bytes.Repeat([]byte{7}, 32))
		c.must(err == nil, err)
		c.hello(api.Share{Group: group, Key: private.PublicKey().Bytes()})
		body, whole := c.message(api.MsgServerHello)
		s, a := wire.GetServerHello(body)
		c.must(a == api.AlertNone && s.Suites[0] == uint16(c.suite), a)
		data, is := wire.Find(s.Exts, api.ExtShares)
		c.must(is, "no share")
		if s.Random == wire.Retry() {
			group, a = wire.GetNumber(data)
			c.must(a == api.AlertNone && group == api.GroupP256, a, group)
			c.said.Retry(c.h)
			c.said.Add(whole)
			continue
		}
		share, a := wire.GetShare(data)
		c.must(a == api.AlertNone && share.Group == group, a)
		c.said.Add(whole)
		_, resumed := wire.Find(s.Exts, api.ExtPSK)
		c.must(resumed == (c.use != nil), "the ticket is not taken")
		public, err := curve(group).NewPublicKey(share.Key)
		c.must(err == nil, err)
		shared, err := private.ECDH(public)
		c.must(err == nil, err)
		return shared
	}
	c.must(false, "it is asked for a third hello")
	return nil
}

// handshake goes through all of it: the ticket that it is given.
func (c *talk) handshake() saved {
	c.t.Helper()
	var psk []byte
	if c.use != nil {
		psk = c.use.secret
	}
	shared := c.begins()
	hs := sched.Handshake(c.h, sched.Early(c.h, psk), shared)
	own := c.step(hs, "c hs traffic", "CLIENT_HANDSHAKE_TRAFFIC_SECRET")
	c.takes(true, own)
	c.takes(false, c.step(hs, "s hs traffic", "SERVER_HANDSHAKE_TRAFFIC_SECRET"))
	next := []api.MsgType{api.MsgExtensions, api.MsgCert, api.MsgVerify}
	if c.use != nil {
		next = next[:1]
	}
	for _, m := range next {
		_, whole := c.message(m)
		c.said.Add(whole)
	}
	body, whole := c.message(api.MsgFinished)
	c.must(bytes.Equal(body, sched.Finished(c.h, c.other, c.said.Sum(c.h))), "the server's code is another one")
	c.said.Add(whole)
	master := sched.Master(c.h, hs)
	mine := c.step(master, "c ap traffic", "CLIENT_TRAFFIC_SECRET_0")
	c.takes(false, c.step(master, "s ap traffic", "SERVER_TRAFFIC_SECRET_0"))
	finished := wire.Frame(api.MsgFinished, sched.Finished(c.h, c.own, c.said.Sum(c.h)))
	c.said.Add(finished)
	c.says(api.ContentHandshake, finished)
	c.takes(true, mine)
	res := sched.Derive(c.h, master, "res master", c.said.Sum(c.h))
	body, _ = c.message(api.MsgTicket)
	ticket, a := wire.GetTicket(body)
	c.must(a == api.AlertNone, a)
	return saved{ticket.Ticket, sched.Resumed(c.h, res, ticket.Nonce)}
}

// echoes: what is said comes back.
func (c *talk) echoes(said string) {
	c.t.Helper()
	c.says(api.ContentData, []byte(said))
	if got := string(c.hears(api.ContentData)); got != said {
		c.t.Fatalf("%q, want %q", got, said)
	}
}

// updates takes new secrets, on both sides.
func (c *talk) updates() {
	c.t.Helper()
	c.says(api.ContentHandshake, wire.Frame(api.MsgKeyUpdate, []byte{1}))
	c.takes(true, sched.Update(c.h, c.own))
	body, _ := c.message(api.MsgKeyUpdate)
	c.must(string(body) == "\x00", body)
	c.takes(false, sched.Update(c.h, c.other))
}

// connects is a talk from its beginning to its end.
func connects(t *testing.T, conf *tls.Config, told *secrets, by api.Suite, use *saved) saved {
	t.Helper()
	front, back := net.Pipe()
	front.SetDeadline(time.Now().Add(time.Minute))
	back.SetDeadline(time.Now().Add(time.Minute))
	c := newTalk(t, front, told, by, use)
	var both sync.WaitGroup
	var resumed bool
	both.Go(func() { resumed = echo(t, back, conf) })
	both.Go(func() {
		for b := range c.out {
			front.Write(b)
		}
	})
	defer func() {
		close(c.out)
		front.Close()
		both.Wait()
		if resumed != (use != nil) {
			t.Errorf("suite %x: it was resumed: %v", by, resumed)
		}
	}()
	out := c.handshake()
	c.echoes("before")
	for range 3 {
		c.updates()
		c.echoes("behind")
	}
	c.says(api.ContentAlert, []byte{1, 0})
	c.hears(api.ContentAlert)
	return out
}

func TestWithTheLibrary(t *testing.T) {
	for _, by := range suites {
		for _, group := range []tls.CurveID{tls.X25519, tls.CurveP256} {
			told := &secrets{all: map[string][]byte{}}
			conf := serverConf(t, told, group)
			first := connects(t, conf, told, by, nil)
			second := connects(t, conf, told, by, &first)
			connects(t, conf, told, by, &second)
		}
	}
}
