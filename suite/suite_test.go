package suite_test

import (
	"encoding/hex"
	"math/rand"
	"testing"

	"drawbridge/api"
	"drawbridge/suite"
)

// row is a line of the document's table.
type row struct {
	suite api.Suite
	hash  api.Hash
	key   int
	limit uint64
}

// rows are the document's table, its numbers written out.
func rows() []row {
	return []row{
		{0x1301, api.SHA256, 16, 23726566},
		{0x1302, api.SHA384, 32, 23726566},
		{0x1303, api.SHA256, 32, 4611686018427387904},
	}
}

func random(r *rand.Rand, n int) []byte {
	b := make([]byte, n)
	r.Read(b)
	return b
}

func randomNonce(r *rand.Rand) [12]byte { return [12]byte(random(r, 12)) }

func unhex(t *testing.T, s string) []byte {
	t.Helper()
	b, err := hex.DecodeString(s)
	if err != nil {
		t.Fatal(err)
	}
	return b
}

func TestNumbers(t *testing.T) {
	if api.SuiteAES128 != 0x1301 || api.SuiteAES256 != 0x1302 || api.SuiteChaCha != 0x1303 {
		t.Error("a suite has another number")
	}
	if api.ErrSuiteNone != 101 || api.ErrSuiteKey != 102 || api.ErrSuiteOpen != 103 {
		t.Error("an error has another number")
	}
}

// TestTable: the table's rows, and noughts of every other number that there is.
func TestTable(t *testing.T) {
	right := map[api.Suite]row{}
	for _, r := range rows() {
		right[r.suite] = r
	}
	for n := range 1 << 16 {
		s := api.Suite(n)
		want, known := right[s]
		if suite.Known(s) != known {
			t.Errorf("Known(%x) is %v", n, !known)
		}
		if suite.Hash(s) != want.hash || suite.KeyLen(s) != want.key || suite.Limit(s) != want.limit {
			t.Errorf("suite %x: %d, %d, %d", n, suite.Hash(s), suite.KeyLen(s), suite.Limit(s))
		}
	}
}

func TestToldNonces(t *testing.T) {
	const most = 1<<64 - 1
	for _, c := range []struct {
		iv   string
		seq  uint64
		want string
	}{
		{"000000000000000000000000", 258, "000000000000000000000102"},
		{"000000000000000000000000", 0, "000000000000000000000000"},
		{"000000000000000000000000", 0x0102030405060708, "000000000102030405060708"},
		{"000000000000000000000000", 1 << 63, "000000008000000000000000"},
		{"000000000000000000000000", most, "00000000ffffffffffffffff"},
		{"ffffffffffffffffffffffff", most, "ffffffff0000000000000000"},
		{"ffffffffffffffffffffffff", 1, "fffffffffffffffffffffffe"},
		{"5d313eb2671276ee13000b30", 0, "5d313eb2671276ee13000b30"},
		{"5d313eb2671276ee13000b30", 1, "5d313eb2671276ee13000b31"},
		{"00000000000000000000ffff", 1, "00000000000000000000fffe"},
		{"0102030405060708090a0b0c", 0x0506070800000000, "0102030400000000090a0b0c"},
	} {
		got := suite.Nonce([12]byte(unhex(t, c.iv)), c.seq)
		if hex.EncodeToString(got[:]) != c.want {
			t.Errorf("Nonce(%s, %x): %x, want %s", c.iv, c.seq, got, c.want)
		}
	}
}

// rightNonce is a nonce told straight from the document: the number's bytes, the highest first, beside the last eight.
func rightNonce(iv [12]byte, seq uint64) [12]byte {
	out := iv
	for place := 11; place >= 4; place-- {
		out[place] = iv[place] ^ byte(seq%256)
		seq /= 256
	}
	return out
}

func TestNoncesOfAnyNumbers(t *testing.T) {
	r := rand.New(rand.NewSource(1))
	for range 20000 {
		iv, seq := randomNonce(r), r.Uint64()>>r.Intn(64)
		if got, want := suite.Nonce(iv, seq), rightNonce(iv, seq); got != want {
			t.Fatalf("Nonce(%x, %x): %x, want %x", iv, seq, got, want)
		}
	}
}

// TestEachBitOfANumber: it turns just its own bit of the nonce.
func TestEachBitOfANumber(t *testing.T) {
	r := rand.New(rand.NewSource(2))
	for bit := range 64 {
		iv, seq := randomNonce(r), r.Uint64()
		want := suite.Nonce(iv, seq)
		want[11-bit/8] ^= 1 << (bit % 8)
		if got := suite.Nonce(iv, seq^1<<bit); got != want {
			t.Errorf("bit %d: %x, want %x", bit, got, want)
		}
	}
}

// TestNoncesNeverTwice: numbers one behind the other, numbers of one bit and of two, and the numbers about the limits; all unlike, so are their nonces.
func TestNoncesNeverTwice(t *testing.T) {
	numbers := map[uint64]int{}
	for n := range uint64(70000) {
		numbers[n]++
		numbers[1<<64-1-n]++
	}
	for i := range 64 {
		for j := range 64 {
			numbers[1<<i|1<<j]++
		}
	}
	for _, row := range rows() {
		for d := range uint64(1000) {
			numbers[row.limit-500+d]++
		}
	}
	r := rand.New(rand.NewSource(3))
	for _, iv := range [][12]byte{{}, {4: 255, 5: 255, 10: 255, 11: 255}, randomNonce(r), randomNonce(r)} {
		seen := map[[12]byte]uint64{}
		for n := range numbers {
			nonce := suite.Nonce(iv, n)
			if other, twice := seen[nonce]; twice {
				t.Fatalf("iv %x: %x and %x have the nonce %x", iv, n, other, nonce)
			}
			seen[nonce] = n
		}
	}
}

// TestNumberComesBack: a nonce tells its number, so that no two have the same.
func TestNumberComesBack(t *testing.T) {
	r := rand.New(rand.NewSource(4))
	for range 10000 {
		iv, seq := randomNonce(r), r.Uint64()>>r.Intn(64)
		nonce := suite.Nonce(iv, seq)
		var back uint64
		for i := 4; i < 12; i++ {
			back = back<<8 | uint64(nonce[i]^iv[i])
		}
		if back != seq || [4]byte(nonce[:4]) != [4]byte(iv[:4]) {
			t.Fatalf("iv %x, number %x: nonce %x", iv, seq, nonce)
		}
		if again := suite.Nonce(nonce, seq); again != iv {
			t.Fatalf("iv %x, number %x: twice is %x", iv, seq, again)
		}
	}
}
