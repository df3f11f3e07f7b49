package world_test

import (
	"math"
	"math/big"
	"testing"

	"drawbridge/api"
	"drawbridge/world"
)

// edges are times and spans around the places where a sum may be too great, or wrap.
func edges() []uint64 {
	return []uint64{0, 1, 2, 5, 1000, 1 << 32, 1<<62 - 1, 1 << 62, 1<<62 + 1,
		api.MaxTime - 5, api.MaxTime - 1, api.MaxTime, api.MaxTime + 1, api.MaxTime + 2,
		math.MaxUint64 - 1, math.MaxUint64}
}

// wantAfter reckons with numbers that have no end.
func wantAfter(now, n uint64) uint64 {
	sum := new(big.Int).Add(new(big.Int).SetUint64(now), new(big.Int).SetUint64(n))
	most := new(big.Int).SetUint64(api.MaxTime)
	if sum.Cmp(most) > 0 {
		return api.MaxTime
	}
	return sum.Uint64()
}

func TestAfterExamples(t *testing.T) {
	if got := world.After(1<<63-2, 5); got != 1<<63-1 {
		t.Error("2^63 - 2 and 5:", got)
	}
	if got := world.After(math.MaxUint64, math.MaxUint64); got != 1<<63-1 {
		t.Error("2^64 - 1 twice:", got)
	}
	if got := world.After(5, 7); got != 12 {
		t.Error("5 and 7:", got)
	}
}

func TestAfterAtEdges(t *testing.T) {
	for _, now := range edges() {
		for _, n := range edges() {
			if got, want := world.After(now, n), wantAfter(now, n); got != want {
				t.Errorf("After(%d, %d) = %d, want %d", now, n, got, want)
			}
		}
	}
}

func TestClockBeginsAtNought(t *testing.T) {
	var c world.Clock
	if c.Now() != 0 {
		t.Error("a zero clock:", c.Now())
	}
	c.Tick(0)
	if c.Now() != 0 {
		t.Error("moved by nothing:", c.Now())
	}
}

func TestClockGoesByAfter(t *testing.T) {
	for _, now := range edges() {
		for _, n := range edges() {
			var c world.Clock
			c.Tick(now)
			at := c.Now()
			c.Tick(n)
			if got, want := c.Now(), wantAfter(at, n); got != want {
				t.Errorf("from %d by %d: %d, want %d", at, n, got, want)
			}
			if c.Now() != c.Now() {
				t.Error("looking at it moves it")
			}
		}
	}
}

func TestTimeNeverGoesBack(t *testing.T) {
	var c world.Clock
	last := c.Now()
	for range 3 {
		for _, n := range edges() {
			c.Tick(n)
			if c.Now() < last || c.Now() > api.MaxTime {
				t.Fatalf("from %d by %d to %d", last, n, c.Now())
			}
			last = c.Now()
		}
	}
	if last != api.MaxTime {
		t.Error("it ends at", last)
	}
}

func TestClocksAreApart(t *testing.T) {
	var c, d world.Clock
	c.Tick(7)
	if d.Now() != 0 {
		t.Error("another clock moved:", d.Now())
	}
}
