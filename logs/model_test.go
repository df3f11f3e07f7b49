package logs_test

import (
	"math"
	"math/rand"
	"regexp"
	"slices"
	"strconv"
	"strings"
	"testing"

	"drawbridge/api"
	"drawbridge/logs"
)

// form is a line's text, but for its keys' being unlike, its numbers' size and its length.
var form = regexp.MustCompile(`^t=(0|[1-9][0-9]*) ev=[a-z][a-z0-9_-]{0,31}( [a-z][a-z0-9_-]{0,31}=(0|[1-9][0-9]*|"([ !#-\[\]-~]|\\["\\]|\\x([01][0-9a-f]|7f|[89a-f][0-9a-f]))*")){0,16}$`)

var (
	anyText = regexp.MustCompile(`"([^"\\]|\\.)*"`)
	anyKey  = regexp.MustCompile(` ([^ =]*)=`)
	anyNum  = regexp.MustCompile(`=([0-9]+)`)
)

// isLine: is it the text of a line?
func isLine(s string) bool {
	if !form.MatchString(s) {
		return false
	}
	bare := anyText.ReplaceAllString(s, "")
	keys := []string{"t"}
	for _, k := range anyKey.FindAllStringSubmatch(bare, -1) {
		if slices.Contains(keys, k[1]) {
			return false
		}
		keys = append(keys, k[1])
	}
	for _, n := range anyNum.FindAllStringSubmatch(bare, -1) {
		if _, err := strconv.ParseUint(n[1], 10, 64); err != nil {
			return false
		}
	}
	return true
}

// mayBegin: does a line's text begin so? These ends lead out of every state.
func mayBegin(s string) bool {
	for _, end := range []string{"", "t=1 ev=a", "=1 ev=a", "1 ev=a", " ev=a", "ev=a", "v=a", "=a", "a", "qz=1", "=1", "zq=1", "1", `"`, `""`, `x00"`, `00"`, `0"`, `f"`} {
		if isLine(s + end) {
			return true
		}
	}
	return false
}

// wordSigns are the bytes that words have.
const wordSigns = "abcdefghijklmnopqrstuvwxyz0123456789-_"

// wordAround is where the word begins that stands at this place or ends there, and where it ends.
func wordAround(s string, at int) (int, int) {
	begin, end := at, at
	for begin > 0 && strings.Contains(wordSigns, s[begin-1:begin]) {
		begin--
	}
	for end < len(s) && strings.Contains(wordSigns, s[end:end+1]) {
		end++
	}
	return begin, end
}

// place is where a text that is no line's is wrong.
func place(s string) int {
	at := 0
	for at < len(s) && mayBegin(s[:at+1]) {
		at++
	}
	begin, end := wordAround(s, at)
	if mayBegin(s[:begin]+"qz=") && begin < end && !mayBegin(s[:end]+"=") { // a key that may not be, whatever comes behind
		return begin
	}
	if at == len(s) {
		return at
	}
	slash := strings.LastIndexByte(s[:at], '\\')
	hex := regexp.MustCompile(`^\\x[0-9a-f][0-9a-f]`)
	switch {
	case slash >= 0 && at-slash <= 3 && hex.MatchString(s[slash:]): // a byte that has no need of it
		return slash
	case slash >= 0 && at == slash+2 && s[slash+1] == 'x' && strings.Contains("23456", s[at:at+1]): // whatever comes behind
		return at + 1
	case at < end && at-begin == 32: // an event too long
		return begin
	case s[at] == ' ' && isLine(s[:at]): // a pair too many
		return at + 1
	}
	return at
}

// word draws a word, few letters of which are used, so that some are alike.
func word(r *rand.Rand) string {
	n := 1 + r.Intn(3)
	if r.Intn(6) == 0 {
		n = 30 + r.Intn(4)
	}
	b := []byte{"tevk"[r.Intn(4)]}
	for len(b) < n {
		b = append(b, "tv0-_"[r.Intn(5)])
	}
	return string(b)
}

// number draws a number, near the bounds now and then.
func number(r *rand.Rand) uint64 {
	switch r.Intn(4) {
	case 0:
		return uint64(r.Intn(11))
	case 1:
		return math.MaxUint64 - uint64(r.Intn(12))
	}
	return r.Uint64() >> r.Intn(64)
}

// anyBytes draws a text's bytes.
func anyBytes(r *rand.Rand) string {
	b := make([]byte, r.Intn(7))
	if r.Intn(30) == 0 {
		b = make([]byte, r.Intn(1200))
	}
	for i := range b {
		b[i] = byte(r.Intn(256))
		if r.Intn(2) == 0 {
			b[i] = "\"\\ =x41f\x1f\x7f~"[r.Intn(11)]
		}
	}
	return string(b)
}

// anyLine draws a line, or what is none.
func anyLine(r *rand.Rand) api.Line {
	l := api.Line{Time: number(r), Event: word(r)}
	n := r.Intn(5)
	if r.Intn(8) == 0 {
		n = 14 + r.Intn(5)
	}
	for i := range n {
		p := api.Pair{Key: word(r), IsNum: r.Intn(2) == 0, Num: number(r), Text: anyBytes(r)}
		if n > 5 {
			p.Key = "k" + strconv.Itoa(i)
		}
		l.Pairs = append(l.Pairs, p)
	}
	return l
}

// counts is a line with the fields zero that do not count.
func counts(l api.Line) api.Line {
	l.Pairs = slices.Clone(l.Pairs)
	for i, p := range l.Pairs {
		if p.IsNum {
			l.Pairs[i].Text = ""
		} else {
			l.Pairs[i].Num = 0
		}
	}
	return l
}

func TestThereAndBack(t *testing.T) {
	r := rand.New(rand.NewSource(3))
	wrote := 0
	for range 20000 {
		l := anyLine(r)
		s, e := logs.Encode(l)
		if e != api.OK {
			continue
		}
		wrote++
		if !isLine(s) || len(s) > api.MaxLine {
			t.Fatalf("%+v is %q", l, s)
		}
		reads(t, s, counts(l))
	}
	if wrote < 5000 {
		t.Errorf("only %d lines were written", wrote)
	}
}

// spoil changes a text a little.
func spoil(r *rand.Rand, s string) string {
	const signs = "tevk0129= =\"\"\\\\xf4\x00\x7f-A"
	i := r.Intn(len(s) + 1)
	j := min(len(s), i+r.Intn(3))
	one := string([]byte{signs[r.Intn(len(signs))]})
	switch r.Intn(4) {
	case 0:
		return s[:i]
	case 1:
		return s[:i] + one + s[i:]
	case 2:
		return s[:i] + s[j:]
	}
	return s[:i] + one + s[j:]
}

func TestParseIsAsTheModel(t *testing.T) {
	r := rand.New(rand.NewSource(4))
	good, bad := 0, 0
	for range 6000 {
		l := anyLine(r)
		s, e := logs.Encode(l)
		if e != api.OK || len(s) > 300 {
			continue
		}
		for range 1 + r.Intn(3) {
			s = spoil(r, s)
		}
		got, at, e := logs.Parse(s)
		if isLine(s) {
			good++
			again, e2 := logs.Encode(got)
			if e != api.OK || at != 0 || e2 != api.OK || again != s {
				t.Fatalf("%q: error %d at %d, written again as %q", s, e, at, again)
			}
			continue
		}
		bad++
		stops(t, s, place(s))
	}
	if good < 100 || bad < 1000 {
		t.Errorf("%d good and %d bad texts are too few", good, bad)
	}
}

// Every call ends, at whatever it is given.
func TestNothingPanics(t *testing.T) {
	r := rand.New(rand.NewSource(5))
	l := fresh(t, 5)
	for range 20000 {
		b := make([]byte, r.Intn(40))
		r.Read(b)
		s := string(b)
		if r.Intn(2) == 0 {
			s = "t=1 ev=a k=\"" + s
		}
		logs.Parse(s)
		l.Count(s, r.Uint64())
		l.Add(api.Line{Event: s, Pairs: []api.Pair{text(s, s), num(s, 1)}})
		l.Add(line(text("k", s)))
		if n := len(l.Lines()); n > 5 {
			t.Fatalf("%d lines are kept", n)
		}
	}
}
