package chacha_test

import (
	"bytes"
	"crypto/ecdh"
	"crypto/hkdf"
	"crypto/hpke"
	"crypto/sha256"
	"encoding/binary"
	"testing"
)

// lock is the library's own, which it has by HPKE alone: a recipient that opens, and the key and the nonce that it opens with, worked out here as RFC 9180 tells them.
type lock struct {
	recipient *hpke.Recipient
	key       [32]byte
	base      [12]byte
	count     uint64
}

// next is the nonce of what the recipient opens next.
func (l *lock) next() [12]byte {
	n := l.base
	at := n[4:]
	binary.BigEndian.PutUint64(at, binary.BigEndian.Uint64(at)^l.count)
	return n
}

// opens: what was sealed by the lock's key and next nonce, the library opens.
func (l *lock) opens(t *testing.T, aside, sealed, text []byte) {
	t.Helper()
	got, err := l.recipient.Open(aside, sealed)
	if err != nil || !bytes.Equal(got, text) {
		t.Fatalf("key %x, nonce %x, aside %x, sealed %x: the library opens %x, %v, want %x", l.key, l.next(), aside, sealed, got, err, text)
	}
	l.count++
}

// refuses: the library does not open it.
func (l *lock) refuses(t *testing.T, aside, sealed []byte) {
	t.Helper()
	if got, err := l.recipient.Open(aside, sealed); err == nil {
		t.Fatalf("key %x, aside %x, sealed %x: the library opens %x", l.key, aside, sealed, got)
	}
}

func must[T any](t *testing.T, x T, err error) T {
	t.Helper()
	if err != nil {
		t.Fatal(err)
	}
	return x
}

func extracted(t *testing.T, suite string, salt []byte, label string, secret []byte) []byte {
	t.Helper()
	b, err := hkdf.Extract(sha256.New, append([]byte("HPKE-v1"+suite+label), secret...), salt)
	return must(t, b, err)
}

func expanded(t *testing.T, suite string, key []byte, label string, info []byte, n int) []byte {
	t.Helper()
	all := string([]byte{byte(n >> 8), byte(n)}) + "HPKE-v1" + suite + label + string(info)
	b, err := hkdf.Expand(sha256.New, key, all, n)
	return must(t, b, err)
}

// newLock is one whose key hangs on its name alone.
func newLock(t *testing.T, name string) *lock {
	t.Helper()
	mine, err := ecdh.X25519().NewPrivateKey(bytes.Repeat([]byte{1}, 32))
	must(t, mine, err)
	other, err := ecdh.X25519().NewPrivateKey(bytes.Repeat([]byte{2}, 32))
	must(t, other, err)
	shared, err := mine.ECDH(other.PublicKey())
	must(t, shared, err)
	enc := other.PublicKey().Bytes()

	const group = "KEM\x00\x20"
	const suite = "HPKE\x00\x20\x00\x01\x00\x03"
	both := append(bytes.Clone(enc), mine.PublicKey().Bytes()...)
	shared = expanded(t, group, extracted(t, group, nil, "eae_prk", shared), "shared_secret", both, 32)
	context := append([]byte{0}, extracted(t, suite, nil, "psk_id_hash", nil)...)
	context = append(context, extracted(t, suite, nil, "info_hash", []byte(name))...)
	secret := extracted(t, suite, shared, "secret", nil)

	private, err := hpke.NewDHKEMPrivateKey(mine)
	must(t, private, err)
	recipient, err := hpke.NewRecipient(enc, private, hpke.HKDFSHA256(), hpke.ChaCha20Poly1305(), []byte(name))
	return &lock{
		recipient: must(t, recipient, err),
		key:       [32]byte(expanded(t, suite, secret, "key", context, 32)),
		base:      [12]byte(expanded(t, suite, secret, "base_nonce", context, 12)),
	}
}
