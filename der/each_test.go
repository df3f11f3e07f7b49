package der

import (
	"errors"
	"strings"
	"testing"

	"drawbridge/api"
)

// TestEachEndsWhereItIsLeft: who has seen enough is told nothing more.
func TestEachEndsWhereItIsLeft(t *testing.T) {
	n := 0
	for x, err := range each([]byte{5, 0, 5, 0, 5, 0}) {
		if err != nil || x.At != 2*n {
			t.Fatal(x, err)
		}
		if n++; n == 2 {
			break
		}
	}
	if n != 2 {
		t.Error(n)
	}
}

// TestWhatIsWrongWrapsItsNumber: and it is the last thing that is told, with its place.
func TestWhatIsWrongWrapsItsNumber(t *testing.T) {
	n := 0
	for x, err := range each([]byte{5, 0, 31, 0, 5, 0}) {
		n++
		if n == 1 && err == nil && x.Tag == 5 {
			continue
		}
		var wrong fault
		if n != 2 || !errors.Is(err, api.ErrDerTag) || errors.Is(err, api.ErrDerShort) || !errors.As(err, &wrong) || wrong.at != 2 {
			t.Fatal(n, x, err)
		}
		if !strings.Contains(err.Error(), "142") || !strings.Contains(err.Error(), "at 2") {
			t.Error(err)
		}
	}
	if n != 2 {
		t.Error(n)
	}
	if number(nil) != api.OK {
		t.Error(number(nil))
	}
}
