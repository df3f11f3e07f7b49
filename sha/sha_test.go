package sha_test

import (
	"bytes"
	"crypto/sha256"
	"crypto/sha512"
	"encoding/hex"
	"math/rand"
	"strings"
	"testing"

	"drawbridge/api"
	"drawbridge/sha"
)

var hashes = []api.Hash{api.SHA256, api.SHA384, api.SHA512}

var noHashes = []api.Hash{0, 4, -1, 5, 1 << 40, -1 << 62, 257, 1<<32 + 1}

// right is the sum by the library.
func right(h api.Hash, b []byte) []byte {
	switch h {
	case api.SHA256:
		s := sha256.Sum256(b)
		return s[:]
	case api.SHA384:
		s := sha512.Sum384(b)
		return s[:]
	}
	s := sha512.Sum512(b)
	return s[:]
}

func random(r *rand.Rand, n int) []byte {
	b := make([]byte, n)
	r.Read(b)
	return b
}

// wantSum holds a sum against the library's, and writes into it, to see that nobody else has its memory.
func wantSum(t *testing.T, what string, h api.Hash, b []byte, got []byte) {
	t.Helper()
	if want := right(h, b); !bytes.Equal(got, want) {
		t.Fatalf("%s, hash %d, %d bytes: %x, want %x", what, h, len(b), got, want)
	}
	got = got[:cap(got)]
	for i := range got {
		got[i] ^= 0xff
	}
}

func TestSizes(t *testing.T) {
	for i, h := range hashes {
		if sha.Size(h) != []int{32, 48, 64}[i] || sha.Block(h) != []int{64, 128, 128}[i] {
			t.Error(h, sha.Size(h), sha.Block(h))
		}
	}
	for _, h := range noHashes {
		if sha.Size(h) != 0 || sha.Block(h) != 0 || len(sha.Of(h)) != 0 || len(sha.Of(h, []byte("a"), make([]byte, 300))) != 0 || sha.New(h) != nil {
			t.Error("no hash", h)
		}
	}
}

func TestExamples(t *testing.T) {
	for _, c := range []struct {
		h    api.Hash
		s    string
		want string
	}{
		{api.SHA256, "", "e3b0c44298fc1c14"},
		{api.SHA256, "abc", "ba7816bf8f01cfea"},
		{api.SHA384, "abc", "cb00753f45a35e8b"},
		{api.SHA512, "abc", "ddaf35a193617aba"},
		{api.SHA384, "", "38b060a751ac9638"},
		{api.SHA512, "", "cf83e1357eefb8bd"},
		{api.SHA256, strings.Repeat("a", 1000000), "cdc76e5c9914fb92"},
		{api.SHA384, strings.Repeat("a", 1000000), "9d0e1809716474cb"},
		{api.SHA512, strings.Repeat("a", 1000000), "e718483d0ce76964"},
	} {
		if got := hex.EncodeToString(sha.Of(c.h, []byte(c.s))); !strings.HasPrefix(got, c.want) {
			t.Errorf("%d of %d bytes: %s", c.h, len(c.s), got)
		}
	}
}

// Every length around the ends of blocks, where the number of bits just fits, or needs a block more.
func TestLengths(t *testing.T) {
	r := rand.New(rand.NewSource(1))
	all := random(r, 700)
	for _, h := range hashes {
		for n := range all {
			wantSum(t, "Of", h, all[:n], sha.Of(h, all[:n]))
			d := sha.New(h)
			d.Write(all[:n])
			wantSum(t, "Sum", h, all[:n], d.Sum())
		}
		for _, b := range []byte{0, 255} {
			same := bytes.Repeat([]byte{b}, 1<<17)
			wantSum(t, "Of", h, same, sha.Of(h, same))
		}
	}
}

func TestParts(t *testing.T) {
	r := rand.New(rand.NewSource(2))
	for range 2000 {
		h := hashes[r.Intn(3)]
		var parts [][]byte
		var all []byte
		for range r.Intn(6) {
			p := random(r, r.Intn(300))
			if r.Intn(4) == 0 {
				p = nil
			}
			parts = append(parts, p)
			all = append(all, p...)
		}
		wantSum(t, "Of", h, all, sha.Of(h, parts...))
	}
	for _, h := range hashes {
		wantSum(t, "no parts", h, nil, sha.Of(h))
		wantSum(t, "nil", h, nil, sha.Of(h, nil))
		wantSum(t, "nil parts", h, nil, sha.Of(h, nil, nil, []byte{}))
	}
}

// Pieces of all lengths, with sums and clones between: each goes its own way.
func TestPieces(t *testing.T) {
	r := rand.New(rand.NewSource(3))
	type one struct {
		d   *sha.Digest
		all []byte
	}
	for range 300 {
		h := hashes[r.Intn(3)]
		them := []one{{sha.New(h), nil}}
		for range 40 {
			i := r.Intn(len(them))
			o := &them[i]
			switch r.Intn(5) {
			case 0:
				wantSum(t, "Sum", h, o.all, o.d.Sum())
			case 1:
				them = append(them, one{o.d.Clone(), bytes.Clone(o.all)})
			case 2:
				block := sha.Block(h)
				o.all = append(o.all, write(o.d, random(r, block-len(o.all)%block+r.Intn(3)-1))...)
			default:
				o.all = append(o.all, write(o.d, random(r, r.Intn(1+r.Intn(400))))...)
			}
		}
		for _, o := range them {
			wantSum(t, "last", h, o.all, o.d.Sum())
			wantSum(t, "again", h, o.all, o.d.Sum())
			if o.d.Hash() != h {
				t.Fatal("Hash", o.d.Hash(), h)
			}
		}
	}
}

// write writes b, spoils the list behind it, and answers what was written: what is handed in is not kept.
func write(d *sha.Digest, b []byte) []byte {
	was := bytes.Clone(b)
	d.Write(b)
	if !bytes.Equal(b, was) {
		panic("Write changed its bytes")
	}
	for i := range b {
		b[i] ^= 0x55
	}
	return was
}

func TestByteByByte(t *testing.T) {
	r := rand.New(rand.NewSource(4))
	all := random(r, 600)
	for _, h := range hashes {
		d := sha.New(h)
		for i := range all {
			wantSum(t, "so far", h, all[:i], d.Sum())
			d.Write(nil)
			d.Write(all[i : i+1])
			d.Write(all[:0])
		}
		wantSum(t, "all", h, all, d.Sum())
	}
}

func TestListsAreLeftAlone(t *testing.T) {
	r := rand.New(rand.NewSource(5))
	for _, h := range hashes {
		for n := range 300 {
			room := random(r, 400)
			was := bytes.Clone(room)
			parts := [][]byte{room[:n/2], room[n/2 : n]}
			wantSum(t, "Of", h, was[:n], sha.Of(h, parts...))
			d := sha.New(h)
			d.Write(room[:n])
			d.Sum()
			if !bytes.Equal(room, was) || len(parts[0]) != n/2 || len(parts[1]) != n-n/2 {
				t.Fatal("changed", h, n)
			}
		}
	}
}

// A Digest that New did not give has no Hash, no bytes and no sum.
func TestNoHash(t *testing.T) {
	var d sha.Digest
	d.Write(make([]byte, 1000))
	if len(d.Sum()) != 0 || d.Hash() != 0 || len(d.Clone().Sum()) != 0 {
		t.Error(d.Sum())
	}
}
