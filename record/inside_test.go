package record

import (
	"math"
	"testing"

	"drawbridge/api"
	"drawbridge/suite"
)

// far is a writer, and a reader, that so many records went through already: more than a test can write.
func far(t *testing.T, s api.Suite, number uint64) (*Writer, *Reader) {
	t.Helper()
	w, r := NewWriter(), NewReader()
	key := make([]byte, suite.KeyLen(s))
	if w.Key(s, key, [12]byte{1}, 0) != api.OK || r.Key(s, key, [12]byte{1}) != api.OK {
		t.Fatal("the key is refused")
	}
	w.by.number, r.by.number = number, number
	return w, r
}

// TestSuitesLimits: up to a suite's own limit, and not beyond it.
func TestSuitesLimits(t *testing.T) {
	for s := api.SuiteAES128; s <= api.SuiteChaCha; s++ {
		w, r := far(t, s, suite.Limit(s)-3)
		if _, e := w.Write(api.ContentData, make([]byte, api.MaxWrite), 0); e != api.ErrRecordFull || w.Left() != 3 {
			t.Errorf("suite %x: %v, %d left", s, e, w.Left())
		}
		b, e := w.Write(api.ContentData, make([]byte, 2*api.MaxPlain+1), 0)
		if e != api.OK || w.Left() != 0 {
			t.Errorf("suite %x: %v, %d left", s, e, w.Left())
		}
		if _, e := w.Write(api.ContentData, nil, 0); e != api.ErrRecordFull {
			t.Errorf("suite %x: %v", s, e)
		}
		for range 3 {
			b = b[r.Feed(b):]
			if _, _, is, a := r.Next(); !is || a != api.AlertNone {
				t.Errorf("suite %x: %v, %d", s, is, a)
			}
		}
	}
}

// TestLastNumber: a reader's number stays at the last one, and does not begin again.
func TestLastNumber(t *testing.T) {
	for s := api.SuiteAES128; s <= api.SuiteChaCha; s++ {
		_, r := far(t, s, math.MaxUint64-1)
		for _, number := range []uint64{math.MaxUint64 - 1, math.MaxUint64, math.MaxUint64, math.MaxUint64} {
			head := headOf(api.ContentData, 2+tagLen)
			b, e := suite.Seal(s, r.by.key, suite.Nonce(r.by.iv, number), head, []byte{7, byte(api.ContentData)})
			if e != api.OK {
				t.Fatal(e)
			}
			r.Feed(append(head, b...))
			if c, text, is, a := r.Next(); c != api.ContentData || string(text) != "\x07" || !is || a != api.AlertNone {
				t.Fatalf("suite %x, number %d: %d, %x, %v, %d", s, number, c, text, is, a)
			}
		}
	}
}

// TestForgets: who is dead keeps neither key nor bytes, and nothing that was held is kept behind what was told.
func TestForgets(t *testing.T) {
	_, r := far(t, api.SuiteChaCha, 0)
	r.Feed([]byte{19, 3, 3, 0, 0})
	if _, _, _, a := r.Next(); a != api.AlertUnexpected || r.by.has() || r.held != nil {
		t.Errorf("%d, %+v", a, r)
	}
	r = NewReader()
	r.Feed([]byte{22, 3, 3, 0, 1, 1})
	if _, _, is, _ := r.Next(); !is || r.held != nil {
		t.Errorf("%+v", r)
	}
}
