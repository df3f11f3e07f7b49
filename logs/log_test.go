package logs_test

import (
	"go/parser"
	"go/token"
	"math"
	"path/filepath"
	"slices"
	"strconv"
	"strings"
	"testing"

	"drawbridge/api"
	"drawbridge/logs"
)

// fresh is a log that keeps so many.
func fresh(t *testing.T, most int) *logs.Log {
	t.Helper()
	l, e := logs.New(most)
	if l == nil || e != api.OK {
		t.Fatalf("New(%d): error %d", most, e)
	}
	return l
}

// wants: a call answered this number.
func wants(t *testing.T, what string, got api.Errno, want api.Errno) {
	t.Helper()
	if got != want {
		t.Errorf("%s: error %d, want %d", what, got, want)
	}
}

// has: the log keeps these, and has lost so many.
func has(t *testing.T, l *logs.Log, lost uint64, want ...string) {
	t.Helper()
	if got := l.Lines(); !slices.Equal(got, want) {
		t.Errorf("lines are %q, want %q", got, want)
	}
	if got := l.Lost(); got != lost {
		t.Errorf("%d are lost, want %d", got, lost)
	}
}

// counted: the log has these counters.
func counted(t *testing.T, l *logs.Log, want ...api.Counter) {
	t.Helper()
	if got := l.Counters(); !slices.Equal(got, want) {
		t.Errorf("counters are %v, want %v", got, want)
	}
}

func TestNew(t *testing.T) {
	for _, most := range []int{math.MinInt, -1, 0, 4097, math.MaxInt} {
		if l, e := logs.New(most); l != nil || e != api.ErrArg {
			t.Errorf("New(%d): %v, error %d", most, l, e)
		}
	}
	for _, most := range []int{1, 2, 4095, 4096} {
		l := fresh(t, most)
		has(t, l, 0)
		counted(t, l)
	}
}

func TestAddKeepsTheLast(t *testing.T) {
	for _, most := range []int{1, 2, 3, 7, 4096} {
		l := fresh(t, most)
		var all []string
		for i := range 2*most + 3 {
			all = append(all, "t="+strconv.Itoa(i)+" ev=x")
			wants(t, "Add", l.Add(api.Line{Time: uint64(i), Event: "x"}), api.OK)
			if most < 100 || i%most < 2 {
				has(t, l, uint64(max(0, i+1-most)), all[max(0, i+1-most):]...)
			}
		}
		has(t, l, uint64(most+3), all[most+3:]...)
	}
}

func TestAddRefuses(t *testing.T) {
	for _, most := range []int{1, 2, 3} {
		l := fresh(t, most)
		wants(t, "Add", l.Add(line(num("k", 1))), api.OK)
		wants(t, "Add", l.Add(line(num("k", 2))), api.OK)
		before, lost := l.Lines(), l.Lost()
		wants(t, "event", l.Add(api.Line{Event: "A"}), api.ErrLogsName)
		wants(t, "many", l.Add(line(pairs(17)...)), api.ErrTooMany)
		wants(t, "key", l.Add(line(num("t", 1))), api.ErrLogsName)
		wants(t, "long", l.Add(line(text("k", strings.Repeat("x", 1012)))), api.ErrLogsLong)
		has(t, l, lost, before...)
		wants(t, "Add", l.Add(line(text("k", "3"))), api.OK)
		has(t, l, uint64(max(0, 3-most)), []string{"t=1 ev=a k=1", "t=1 ev=a k=2", `t=1 ev=a k="3"`}[max(0, 3-most):]...)
	}
}

func TestCount(t *testing.T) {
	l := fresh(t, 1)
	for _, c := range []api.Counter{{Name: "b", N: 2}, {Name: "a", N: 0}, {Name: "b-", N: 1}, {Name: "b", N: 3}, {Name: "ab", N: 7}, {Name: "b_", N: 1}, {Name: "b9", N: 1}, {Name: "bz", N: 1}, {Name: "b", N: 0}} {
		wants(t, "Count", l.Count(c.Name, c.N), api.OK)
	}
	want := []api.Counter{{Name: "a", N: 0}, {Name: "ab", N: 7}, {Name: "b", N: 5}, {Name: "b-", N: 1}, {Name: "b9", N: 1}, {Name: "b_", N: 1}, {Name: "bz", N: 1}}
	counted(t, l, want...)
	for _, name := range badWords() {
		wants(t, "Count "+name, l.Count(name, 1), api.ErrLogsName)
	}
	counted(t, l, want...)
	has(t, l, 0)
	for _, name := range goodWords() {
		wants(t, "Count "+name, l.Count(name, 1), api.OK)
	}
	other := fresh(t, 1)
	counted(t, other)
}

// Counters never go down, and stop at the greatest number.
func TestCountNeverWraps(t *testing.T) {
	const most = math.MaxUint64
	for _, ns := range [][]uint64{{most, 1}, {most, most}, {1, most}, {most - 1, 1}, {most - 1, 2}, {1 << 63, 1 << 63}, {1 << 63, 1<<63 - 1}, {most - 5, 5, 1}, {most, 0}, {0, most}} {
		l := fresh(t, 1)
		for range 2 {
			was := uint64(0)
			for _, n := range ns {
				wants(t, "Count", l.Count("c", n), api.OK)
				got := l.Counters()[0].N
				if got < was {
					t.Errorf("%v: it went down from %d to %d", ns, was, got)
				}
				was = got
			}
			counted(t, l, api.Counter{Name: "c", N: most})
		}
	}
	l := fresh(t, 1)
	wants(t, "Count", l.Count("c", most-1), api.OK)
	counted(t, l, api.Counter{Name: "c", N: most - 1})
	wants(t, "Count", l.Count("d", 3), api.OK)
	wants(t, "Count", l.Count("c", 7), api.OK)
	counted(t, l, api.Counter{Name: "c", N: most}, api.Counter{Name: "d", N: 3})
}

func TestManyCounters(t *testing.T) {
	l := fresh(t, 1)
	var want []api.Counter
	for i := range 300 {
		name := "c" + strconv.Itoa((i*7)%300)
		wants(t, "Count", l.Count(name, uint64(i)), api.OK)
		want = append(want, api.Counter{Name: name, N: uint64(i)})
	}
	slices.SortFunc(want, func(a, b api.Counter) int { return strings.Compare(a.Name, b.Name) })
	for range 5 {
		counted(t, l, want...)
	}
}

// A list that is handed in stays as it is, with its spare room, and is not kept.
func TestListsHandedIn(t *testing.T) {
	whole := []api.Pair{num("a", 1), {Key: "b", Num: 5, Text: "x"}, num("spare", 3)}
	before := slices.Clone(whole)
	l := fresh(t, 2)
	x := api.Line{Time: 1, Event: "e", Pairs: whole[:2]}
	wants(t, "Add", l.Add(x), api.OK)
	refuses(t, "event", api.Line{Event: "E", Pairs: whole[:2]}, api.ErrLogsName)
	writes(t, x, `t=1 ev=e a=1 b="x"`)
	if !slices.Equal(whole, before) {
		t.Errorf("what was handed in is %v now", whole)
	}
	whole[0], whole[1] = num("z", 9), num("y", 9)
	has(t, l, 0, `t=1 ev=e a=1 b="x"`)
}

// A list that comes out is new memory, with its spare room.
func TestListsThatComeOut(t *testing.T) {
	l := fresh(t, 3)
	for i := range 5 {
		l.Add(api.Line{Time: uint64(i), Event: "x"})
		l.Count("c"+strconv.Itoa(i), 1)
	}
	lines, counters := l.Lines(), l.Counters()
	kept, keptCounters := l.Lines(), l.Counters()
	for i := range lines[:cap(lines)] {
		lines[:cap(lines)][i] = "#"
	}
	for i := range counters[:cap(counters)] {
		counters[:cap(counters)][i] = api.Counter{Name: "#"}
	}
	has(t, l, 2, "t=2 ev=x", "t=3 ev=x", "t=4 ev=x")
	if got := l.Counters(); !slices.Equal(got, keptCounters) {
		t.Errorf("counters are %v, want %v", got, keptCounters)
	}
	l.Add(api.Line{Time: 5, Event: "x"})
	l.Count("c0", 1)
	if !slices.Equal(kept, []string{"t=2 ev=x", "t=3 ev=x", "t=4 ev=x"}) || keptCounters[0].N != 1 {
		t.Errorf("what came out is %q and %v now", kept, keptCounters)
	}
	first, _, _ := logs.Parse(`t=1 ev=a k=1 m=""`)
	for i := range first.Pairs[:cap(first.Pairs)] {
		first.Pairs[:cap(first.Pairs)][i] = num("#", 0)
	}
	reads(t, `t=1 ev=a k=1 m=""`, line(num("k", 1), text("m", "")))
}

// Layer 3 stands on package api alone.
func TestStandsOnApiAlone(t *testing.T) {
	sources, err := filepath.Glob("*.go")
	if err != nil {
		t.Fatal(err)
	}
	for _, name := range sources {
		if strings.HasSuffix(name, "_test.go") {
			continue
		}
		f, err := parser.ParseFile(token.NewFileSet(), name, nil, parser.ImportsOnly)
		if err != nil {
			t.Fatal(err)
		}
		for _, i := range f.Imports {
			if !slices.Contains([]string{`"drawbridge/api"`, `"math"`, `"slices"`, `"strconv"`, `"strings"`}, i.Path.Value) {
				t.Errorf("%s imports %s", name, i.Path.Value)
			}
		}
	}
}
