package files_test

import (
	"bytes"
	"slices"
	"strconv"
	"strings"
	"testing"

	"drawbridge/api"
	"drawbridge/files"
)

// ok: a call that must not fail did not.
func ok(t *testing.T, e api.Errno) {
	t.Helper()
	if e != api.OK {
		t.Fatalf("error %d", e)
	}
}

// wants: a call answered this number.
func wants(t *testing.T, what string, got api.Errno, want api.Errno) {
	t.Helper()
	if got != want {
		t.Errorf("%s: error %d, want %d", what, got, want)
	}
}

// look: a file is there, with these bytes, torn or not.
func look(t *testing.T, s *files.Store, name string, want string, torn bool) {
	t.Helper()
	b, e := s.Read(name)
	if string(b) != want || e != api.OK {
		t.Errorf("%s is %q (error %d), want %q", name, b, e, want)
	}
	if s.Torn(name) != torn {
		t.Errorf("%s is torn: %t, want %t", name, !torn, torn)
	}
}

// gone: no such file is there.
func gone(t *testing.T, s *files.Store, name string) {
	t.Helper()
	b, e := s.Read(name)
	if len(b) != 0 || e != api.ErrFilesNone {
		t.Errorf("%q, which is not there, is %q (error %d)", name, b, e)
	}
	if s.Torn(name) {
		t.Errorf("%q, which is not there, is torn", name)
	}
	wants(t, "Settle "+name, s.Settle(name), api.ErrFilesNone)
	wants(t, "Remove "+name, s.Remove(name), api.ErrFilesNone)
}

// names: these are there.
func names(t *testing.T, s *files.Store, want ...string) {
	t.Helper()
	if got := s.Names(); !slices.Equal(got, want) {
		t.Errorf("names are %q, want %q", got, want)
	}
}

// counted are so many bytes, each unlike those near it.
func counted(n int) []byte {
	b := make([]byte, n)
	for i := range b {
		b[i] = byte(i*7 + i>>8)
	}
	return b
}

// full is a store with as many files as may be: f0, f1, ...
func full(t *testing.T) *files.Store {
	t.Helper()
	s := files.New()
	for i := range api.MaxFiles {
		if i%2 == 0 {
			ok(t, s.Put("f"+strconv.Itoa(i), counted(i)))
		} else {
			ok(t, s.Tear("f"+strconv.Itoa(i), counted(i), i/2))
		}
	}
	return s
}

func TestExamples(t *testing.T) {
	s := files.New()
	ok(t, s.Put("a", []byte("abcdef")))
	ok(t, s.Tear("a", []byte("XYZ"), 2))
	look(t, s, "a", "XYcdef", true)
	ok(t, s.Settle("a"))
	look(t, s, "a", "XYZ", false)
	wants(t, "settled already", s.Settle("a"), api.ErrFilesTorn)
	ok(t, s.Tear("b", []byte("pq"), 1))
	look(t, s, "b", "p", true)
	names(t, s, "a", "b")
	wants(t, "Put(A)", s.Put("A", nil), api.ErrFilesName)
	gone(t, s, "c")
}

func TestNewIsEmpty(t *testing.T) {
	s := files.New()
	names(t, s)
	for _, name := range []string{"a", "", "A", strings.Repeat("a", 33)} {
		gone(t, s, name)
	}
}

func TestStoresAreApart(t *testing.T) {
	s, r := files.New(), files.New()
	ok(t, s.Put("a", []byte("abc")))
	ok(t, s.Tear("b", []byte("def"), 1))
	names(t, r)
	gone(t, r, "a")
	ok(t, r.Put("b", []byte("xyz")))
	look(t, s, "b", "d", true)
	look(t, r, "b", "xyz", false)
}

func TestPutReadsAsItWasWrittenLast(t *testing.T) {
	s := files.New()
	for _, text := range []string{"abc", "abcdef", "x", "", "again", "\x00\xff"} {
		ok(t, s.Put("a", []byte(text)))
		look(t, s, "a", text, false)
		names(t, s, "a")
	}
	ok(t, s.Put("a", nil))
	look(t, s, "a", "", false)
	ok(t, s.Put("b", []byte("other")))
	look(t, s, "a", "", false)
	look(t, s, "b", "other", false)
	names(t, s, "a", "b")
}

func TestPutMendsATornOne(t *testing.T) {
	s := files.New()
	ok(t, s.Put("a", []byte("abcdef")))
	ok(t, s.Tear("a", []byte("XYZ"), 2))
	ok(t, s.Put("a", []byte("uvw")))
	look(t, s, "a", "uvw", false)
	wants(t, "not torn any more", s.Settle("a"), api.ErrFilesTorn)
	ok(t, s.Tear("a", []byte("12"), 1))
	look(t, s, "a", "1vw", true)
}

// letters are those that a name may have.
const letters = "abcdefghijklmnopqrstuvwxyz0123456789-_."

// badNames are texts that are no names.
func badNames() []string {
	out := []string{
		"", strings.Repeat("a", 33), strings.Repeat("a", 34), strings.Repeat(".", 1000),
		"é", "aé", "éa", "K", "ſ", "０", "a\u0301", "\ufffd", "a\xff", "\xffa", "\xe2\x82", "a\xc0\xafb",
		strings.Repeat("é", 16), strings.Repeat("é", 32), strings.Repeat("a", 31) + "é", strings.Repeat("a", 30) + "é",
		strings.Repeat("a", 31) + "A", "A" + strings.Repeat("a", 31), "a b", "a/b", "../a", "a\n", "a\x00",
	}
	for b := range 256 {
		if strings.IndexByte(letters, byte(b)) < 0 {
			c := string([]byte{byte(b)})
			out = append(out, c, c+"a", "a"+c, "ab"+c+"cd")
		}
	}
	return out
}

func TestNames(t *testing.T) {
	good := []string{letters[:32], letters[7:], strings.Repeat("-", 32), strings.Repeat("a", 31), ".", "..", "...", "-", "_", "a.key", "0"}
	for i := range letters {
		good = append(good, letters[i:i+1], "x"+letters[i:i+1], letters[i:i+1]+"x")
	}
	for _, name := range good {
		s := files.New()
		ok(t, s.Put(name, []byte("abc")))
		look(t, s, name, "abc", false)
		names(t, s, name)
		s = files.New()
		ok(t, s.Tear(name, []byte("abc"), 1))
		look(t, s, name, "a", true)
		names(t, s, name)
	}
}

func TestNamesThatMayNotBe(t *testing.T) {
	s := files.New()
	for _, name := range badNames() {
		wants(t, "Put "+strconv.Quote(name), s.Put(name, nil), api.ErrFilesName)
		wants(t, "Tear "+strconv.Quote(name), s.Tear(name, nil, 0), api.ErrFilesName)
		gone(t, s, name)
	}
	names(t, s)
}

func TestNamesAreToldApart(t *testing.T) {
	s := files.New()
	all := []string{"a", "aa", "a.", "a-", "a_", "a0", "b", strings.Repeat("a", 31), strings.Repeat("a", 32)}
	for i, name := range all {
		ok(t, s.Put(name, counted(i+1)))
	}
	for i, name := range all {
		look(t, s, name, string(counted(i+1)), false)
	}
}

func TestNamesRise(t *testing.T) {
	s := files.New()
	for _, name := range []string{"b", "a0", "a", "_", "9", "aa", ".", "10", "-", "a_", "2", "z", "a-", "a."} {
		ok(t, s.Put(name, nil))
	}
	names(t, s, "-", ".", "10", "2", "9", "_", "a", "a-", "a.", "a0", "a_", "aa", "b", "z")
	ok(t, s.Remove("2"))
	ok(t, s.Remove("z"))
	ok(t, s.Put("c", nil))
	ok(t, s.Tear("0", nil, 0))
	names(t, s, "-", ".", "0", "10", "9", "_", "a", "a-", "a.", "a0", "a_", "aa", "b", "c")
}

func TestLong(t *testing.T) {
	s := files.New()
	most, more := counted(api.MaxFile), counted(api.MaxFile+1)
	wants(t, "Put too much", s.Put("a", more), api.ErrFilesLong)
	wants(t, "Tear too much", s.Tear("a", more, 0), api.ErrFilesLong)
	names(t, s)
	ok(t, s.Put("a", most))
	look(t, s, "a", string(most), false)
	wants(t, "Put too much", s.Put("a", more), api.ErrFilesLong)
	look(t, s, "a", string(most), false)
	other := bytes.Repeat([]byte("x"), api.MaxFile)
	ok(t, s.Tear("a", other, api.MaxFile))
	look(t, s, "a", string(other), true)
	ok(t, s.Tear("b", most, api.MaxFile-1))
	look(t, s, "b", string(most[:api.MaxFile-1]), true)
	ok(t, s.Settle("b"))
	look(t, s, "b", string(most), false)
}

func TestFull(t *testing.T) {
	s := full(t)
	wants(t, "Put one too many", s.Put("g", nil), api.ErrFilesFull)
	wants(t, "Tear one too many", s.Tear("g", nil, 0), api.ErrFilesFull)
	gone(t, s, "g")
	if len(s.Names()) != api.MaxFiles {
		t.Error(s.Names())
	}
	ok(t, s.Put("f3", []byte("abc")))
	ok(t, s.Tear("f3", []byte("XY"), 1))
	look(t, s, "f3", "Xbc", true)
	ok(t, s.Settle("f3"))
	ok(t, s.Remove("f63"))
	ok(t, s.Tear("g", []byte("abc"), 2))
	look(t, s, "g", "ab", true)
	wants(t, "full again", s.Put("h", nil), api.ErrFilesFull)
	ok(t, s.Remove("g"))
	ok(t, s.Put("h", nil))
	wants(t, "full again", s.Tear("g", nil, 0), api.ErrFilesFull)
	look(t, s, "f3", "XY", false)
}

func TestRemove(t *testing.T) {
	s := files.New()
	ok(t, s.Put("a", []byte("abc")))
	ok(t, s.Put("b", []byte("def")))
	ok(t, s.Tear("b", []byte("XY"), 1))
	ok(t, s.Remove("a"))
	gone(t, s, "a")
	look(t, s, "b", "Xef", true)
	names(t, s, "b")
	ok(t, s.Remove("b"))
	gone(t, s, "b")
	names(t, s)
	ok(t, s.Tear("b", []byte("pq"), 0)) // nothing of what was removed comes back
	look(t, s, "b", "", true)
	ok(t, s.Put("a", nil))
	look(t, s, "a", "", false)
}
