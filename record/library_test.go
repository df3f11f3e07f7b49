package record_test

import (
	"bytes"
	"crypto/ed25519"
	"crypto/hkdf"
	"crypto/sha256"
	"crypto/sha512"
	"crypto/tls"
	"crypto/x509"
	"crypto/x509/pkix"
	"encoding/hex"
	"hash"
	"io"
	"math/big"
	"math/rand"
	"net"
	"strings"
	"sync"
	"testing"
	"time"

	"drawbridge/api"
	"drawbridge/record"
	"drawbridge/suite"
)

// A client and a server of the library talk with each other through a relay, which reads each record of theirs and writes it anew: in other pieces, with other noughts.

// secrets are those that the library tells, by their names.
type secrets struct {
	mu  sync.Mutex
	all map[string][]byte
}

func (s *secrets) Write(line []byte) (int, error) {
	s.mu.Lock()
	defer s.mu.Unlock()
	if words := strings.Fields(string(line)); len(words) == 3 {
		secret, err := hex.DecodeString(words[2])
		if err != nil {
			return 0, err
		}
		s.all[words[0]] = secret
	}
	return len(line), nil
}

// lock is what a suite makes of a secret.
func (s *secrets) lock(t *testing.T, by api.Suite, name string) lock {
	s.mu.Lock()
	defer s.mu.Unlock()
	sum := func() hash.Hash { return sha256.New() }
	if by == api.SuiteAES256 {
		sum = func() hash.Hash { return sha512.New384() }
	}
	expand := func(label string, n int) []byte {
		info := append([]byte{byte(n >> 8), byte(n), byte(6 + len(label))}, "tls13 "+label...)
		b, err := hkdf.Expand(sum, s.all[name], string(append(info, 0)), n)
		if err != nil {
			t.Error(err)
		}
		return b
	}
	return lock{by, expand("key", suite.KeyLen(by)), [12]byte(expand("iv", 12))}
}

// relay is one way of it.
type relay struct {
	t        *testing.T
	r        *rand.Rand
	x        *record.Reader
	w        *record.Writer
	to       net.Conn
	secrets  *secrets
	suite    *api.Suite // the server's hello tells it
	keys     []string   // of the secrets that come next
	messages []byte     // those that are not whole yet
	hello    bool       // it was a client's hello that came last: what comes next is by a secret
	ended    bool
}

// next takes the next secret.
func (y *relay) next() {
	l := y.secrets.lock(y.t, *y.suite, y.keys[0])
	y.keys = y.keys[1:]
	if y.x.Key(l.s, l.key, l.iv) != api.OK || y.w.Key(l.s, l.key, l.iv, 0) != api.OK {
		y.t.Error("a key is refused")
	}
}

// hears reads a handshake's messages, and takes secrets where they end with one that brings them.
func (y *relay) hears(text []byte) {
	for y.messages = append(y.messages, text...); len(y.messages) >= 4; {
		n := 4 + int(y.messages[1])<<16 + int(y.messages[2])<<8 + int(y.messages[3])
		if len(y.messages) < n {
			return
		}
		m := y.messages[:n]
		y.messages = y.messages[n:]
		switch m[0] {
		case 1:
			y.hello = true
		case 2:
			at := 4 + 2 + 32
			at += 1 + int(m[at])
			*y.suite = api.Suite(m[at])<<8 | api.Suite(m[at+1])
			y.next()
		case 20:
			y.next()
		}
	}
}

// says writes a text anew.
func (y *relay) says(c api.Content, text []byte) bool {
	for first := true; first || len(text) > 0; first = false {
		n := len(text)
		if c != api.ContentAlert && y.r.Intn(3) > 0 {
			n = min(n, 1+y.r.Intn(3000))
		}
		b, e := y.w.Write(c, text[:n], y.r.Intn(2)*y.r.Intn(256))
		if e != api.OK {
			y.t.Error(e)
			return false
		}
		if _, err := y.to.Write(b); err != nil {
			return false
		}
		text = text[n:]
	}
	return true
}

// carries brings all that it has to the other side; false, if it can't go on.
func (y *relay) carries(b []byte) bool {
	for len(b) > 0 {
		b = b[y.x.Feed(b):]
		for {
			c, text, is, a := y.x.Next()
			if a != api.AlertNone {
				y.t.Errorf("the alert %d", a)
				return false
			}
			if !is {
				break
			}
			y.ended = y.ended || c == api.ContentAlert && bytes.Equal(text, []byte{1, 0})
			// It is written by the key that it came by: the next one is for what follows.
			if !y.says(c, text) {
				return false
			}
			if c == api.ContentHandshake {
				y.hears(text)
			}
		}
	}
	return true
}

// goes reads till nothing comes any more.
func (y *relay) goes(from net.Conn) {
	b := make([]byte, 5000)
	for {
		n, err := from.Read(b[:1+y.r.Intn(len(b))])
		if err != nil {
			return
		}
		if y.hello { // a client says nothing behind it till it has heard all of the server's handshake
			y.hello = false
			y.next()
		}
		if !y.carries(b[:n]) {
			return
		}
	}
}

func libraryConfs(t *testing.T, log io.Writer) (client, server *tls.Config) {
	t.Helper()
	key := ed25519.NewKeyFromSeed(make([]byte, 32))
	c := &x509.Certificate{
		SerialNumber: big.NewInt(1), Subject: pkix.Name{CommonName: "a.b"}, DNSNames: []string{"a.b"},
		NotBefore: time.Unix(1700000000, 0), NotAfter: time.Unix(2600000000, 0),
	}
	der, err := x509.CreateCertificate(nil, c, c, key.Public(), key)
	if err != nil {
		t.Fatal(err)
	}
	parsed, err := x509.ParseCertificate(der)
	if err != nil {
		t.Fatal(err)
	}
	roots := x509.NewCertPool()
	roots.AddCert(parsed)
	now := func() time.Time { return time.Unix(1800000000, 0) }
	client = &tls.Config{RootCAs: roots, ServerName: "a.b", MinVersion: tls.VersionTLS13, Time: now}
	server = &tls.Config{Certificates: []tls.Certificate{{Certificate: [][]byte{der}, PrivateKey: key}}, MinVersion: tls.VersionTLS13, Time: now, KeyLogWriter: log}
	return client, server
}

// talks brings bytes to the other end, closes, and holds what comes till the other end closes against what must.
func talks(t *testing.T, c *tls.Conn, b, want []byte) {
	var all sync.WaitGroup
	all.Go(func() {
		if _, err := c.Write(b); err != nil {
			t.Error(err)
		}
		if err := c.CloseWrite(); err != nil {
			t.Error(err)
		}
	})
	if got, err := io.ReadAll(c); err != nil || !bytes.Equal(got, want) {
		t.Errorf("%d bytes, want %d, %v", len(got), len(want), err)
	}
	all.Wait()
}

func TestBetweenEndsOfTheLibrary(t *testing.T) {
	for turn := range int64(6) {
		told := &secrets{all: map[string][]byte{}}
		clientConf, serverConf := libraryConfs(t, told)
		client, front := net.Pipe()
		back, server := net.Pipe()
		var by api.Suite
		way := func(to net.Conn, keys ...string) *relay {
			x := record.NewReader()
			x.Quiet(true)
			return &relay{t: t, r: rand.New(rand.NewSource(turn)), x: x, w: record.NewWriter(), to: to, secrets: told, suite: &by, keys: keys}
		}
		up := way(back, "CLIENT_HANDSHAKE_TRAFFIC_SECRET", "CLIENT_TRAFFIC_SECRET_0")
		down := way(front, "SERVER_HANDSHAKE_TRAFFIC_SECRET", "SERVER_TRAFFIC_SECRET_0")
		r := rand.New(rand.NewSource(turn))
		said, answered := random(r, 60000*int(turn)), random(r, 1000+r.Intn(200000))
		var ways, ends sync.WaitGroup
		ways.Go(func() { up.goes(front) })
		ways.Go(func() { down.goes(back) })
		ends.Go(func() { talks(t, tls.Client(client, clientConf), said, answered) })
		ends.Go(func() { talks(t, tls.Server(server, serverConf), answered, said) })
		ends.Wait()
		client.Close()
		server.Close()
		ways.Wait()
		if !up.ended || !down.ended || len(up.keys)+len(down.keys) != 0 || up.x.Held()+down.x.Held() != 0 {
			t.Errorf("turn %d: not all came to its end: %v, %v", turn, up.keys, down.keys)
		}
	}
}
