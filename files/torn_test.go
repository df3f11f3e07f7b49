package files_test

import (
	"math"
	"strconv"
	"testing"

	"drawbridge/api"
	"drawbridge/files"
)

func TestTorn(t *testing.T) {
	for _, a := range []struct {
		old, fresh string
		n          int
		want       string
	}{
		{"abcdef", "XYZ", 0, "abcdef"},
		{"abcdef", "XYZ", 1, "Xbcdef"},
		{"abcdef", "XYZ", 2, "XYcdef"},
		{"abcdef", "XYZ", 3, "XYZdef"},
		{"abc", "XYZ", 0, "abc"},
		{"abc", "XYZ", 2, "XYc"},
		{"abc", "XYZ", 3, "XYZ"},
		{"ab", "UVWXYZ", 0, "ab"},
		{"ab", "UVWXYZ", 1, "Ub"},
		{"ab", "UVWXYZ", 2, "UV"},
		{"ab", "UVWXYZ", 3, "UVW"},
		{"ab", "UVWXYZ", 6, "UVWXYZ"},
		{"", "XYZ", 0, ""},
		{"", "XYZ", 2, "XY"},
		{"", "XYZ", 3, "XYZ"},
		{"abc", "", 0, "abc"},
		{"", "", 0, ""},
	} {
		s := files.New()
		ok(t, s.Put("a", []byte(a.old)))
		ok(t, s.Tear("a", []byte(a.fresh), a.n))
		look(t, s, "a", a.want, true)
		look(t, s, "a", a.want, true) // to read it settles nothing
		ok(t, s.Settle("a"))
		look(t, s, "a", a.fresh, false)
		wants(t, "settled already", s.Settle("a"), api.ErrFilesTorn)
		look(t, s, "a", a.fresh, false)
	}
}

func TestTearAFileThatIsNotThere(t *testing.T) {
	for n := range 4 {
		s := files.New()
		ok(t, s.Tear("a", []byte("abc"), n))
		look(t, s, "a", "abc"[:n], true)
		names(t, s, "a")
		ok(t, s.Settle("a"))
		look(t, s, "a", "abc", false)
	}
}

func TestTearAgain(t *testing.T) {
	s := files.New()
	ok(t, s.Put("a", []byte("abcdef")))
	ok(t, s.Tear("a", []byte("XYZ"), 1))
	for _, n := range []int{0, 1, 2, 3, 4, -1} {
		wants(t, "torn already", s.Tear("a", []byte("123"), n), api.ErrFilesTorn)
		look(t, s, "a", "Xbcdef", true)
	}
	ok(t, s.Settle("a"))
	look(t, s, "a", "XYZ", false) // and not what was refused
	ok(t, s.Tear("a", []byte("123"), 2))
	look(t, s, "a", "12Z", true)
	ok(t, s.Settle("a"))
	look(t, s, "a", "123", false)
}

func TestTearsTouchOneFile(t *testing.T) {
	s := files.New()
	ok(t, s.Put("a", []byte("abc")))
	ok(t, s.Put("b", []byte("abc")))
	ok(t, s.Tear("a", []byte("XY"), 1))
	look(t, s, "b", "abc", false)
	wants(t, "not torn", s.Settle("b"), api.ErrFilesTorn)
	ok(t, s.Tear("b", []byte("123"), 2))
	ok(t, s.Settle("b"))
	look(t, s, "a", "Xbc", true)
	look(t, s, "b", "123", false)
}

func TestTearOutOfRange(t *testing.T) {
	for _, n := range []int{math.MinInt, math.MinInt + 1, -65536, -2, -1, 4, 5, 6, 7, 65536, 1 << 32, math.MaxInt - 1, math.MaxInt} {
		s := files.New()
		what := "Tear by " + strconv.Itoa(n)
		wants(t, what, s.Tear("a", []byte("XYZ"), n), api.ErrArg)
		gone(t, s, "a")
		names(t, s)
		ok(t, s.Put("a", []byte("abcdef"))) // the new bytes count, and not the old ones
		wants(t, what, s.Tear("a", []byte("XYZ"), n), api.ErrArg)
		wants(t, what, s.Tear("a", append(make([]byte, 0, 99), "XYZ"...), n), api.ErrArg)
		look(t, s, "a", "abcdef", false)
	}
	wants(t, "nothing of nothing", files.New().Tear("a", nil, 0), api.OK)
	wants(t, "one of nothing", files.New().Tear("a", nil, 1), api.ErrArg)
}

// What the words name first is answered: a name, a length, room, torn, a number.
func TestErrorsInOrder(t *testing.T) {
	more, some := counted(api.MaxFile+1), counted(3)
	s := full(t) // f1 is torn, f2 is not
	for _, a := range []struct {
		name string
		b    []byte
		n    int
		put  api.Errno
		tear api.Errno
	}{
		{"G", more, -1, api.ErrFilesName, api.ErrFilesName},
		{"G", some, -1, api.ErrFilesName, api.ErrFilesName},
		{"g", more, -1, api.ErrFilesLong, api.ErrFilesLong},
		{"f1", more, -1, api.ErrFilesLong, api.ErrFilesLong},
		{"f2", more, -1, api.ErrFilesLong, api.ErrFilesLong},
		{"g", some, -1, api.ErrFilesFull, api.ErrFilesFull},
		{"g", some, 4, api.ErrFilesFull, api.ErrFilesFull},
		{"f1", some, -1, api.OK, api.ErrFilesTorn},
		{"f1", some, 4, api.OK, api.ErrFilesTorn},
		{"f2", some, -1, api.OK, api.ErrArg},
		{"f2", some, 4, api.OK, api.ErrArg},
	} {
		wants(t, "Tear "+a.name, s.Tear(a.name, a.b, a.n), a.tear)
		if a.put != api.OK {
			wants(t, "Put "+a.name, s.Put(a.name, a.b), a.put)
		}
	}
	look(t, s, "f1", "", true)
	look(t, s, "f2", string(counted(2)), false)
	ok(t, s.Settle("f1"))
	look(t, s, "f1", string(counted(1)), false)
}
