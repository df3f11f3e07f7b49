package logs_test

import (
	"math"
	"strconv"
	"strings"
	"testing"

	"drawbridge/api"
	"drawbridge/logs"
)

// num is a pair that has a number.
func num(key string, n uint64) api.Pair { return api.Pair{Key: key, IsNum: true, Num: n} }

// text is a pair that has a text.
func text(key string, s string) api.Pair { return api.Pair{Key: key, Text: s} }

// line is a line of event a at the time 1.
func line(pairs ...api.Pair) api.Line { return api.Line{Time: 1, Event: "a", Pairs: pairs} }

// pairs are so many, each with a key of its own.
func pairs(n int) []api.Pair {
	var out []api.Pair
	for i := range n {
		out = append(out, num("k"+strconv.Itoa(i), uint64(i)))
	}
	return out
}

// writes: Encode answers this text.
func writes(t *testing.T, l api.Line, want string) {
	t.Helper()
	if got, e := logs.Encode(l); got != want || e != api.OK {
		t.Errorf("%+v is %q (error %d), want %q", l, got, e, want)
	}
}

// refuses: Encode answers this error, and no text.
func refuses(t *testing.T, what string, l api.Line, want api.Errno) {
	t.Helper()
	if got, e := logs.Encode(l); got != "" || e != want {
		t.Errorf("%s: %q, error %d, want %d", what, got, e, want)
	}
}

// goodWords and badWords are words, and what is none.
func goodWords() []string {
	return []string{"a", "z", "a0", "z9", "a-", "a_", "a-b_c9", "t", "ev", "accept", strings.Repeat("a", 32), "z" + strings.Repeat("9", 31)}
}

func badWords() []string {
	out := []string{"", "0", "9a", "-", "-a", "_a", "A", "aA", "a b", "a ", " a", "a=", "a.", "a\"", "ä", "aä", "a\x00", "\xff", strings.Repeat("a", 33), strings.Repeat("a", 5000)}
	for c := range 256 {
		if !strings.Contains("abcdefghijklmnopqrstuvwxyz0123456789-_", string([]byte{byte(c)})) {
			out = append(out, "a"+string([]byte{byte(c)}), string([]byte{byte(c)}), string([]byte{'a', byte(c), 'b'}))
		}
	}
	return out
}

func TestEncodeExample(t *testing.T) {
	writes(t, api.Line{Time: 12, Event: "accept", Pairs: []api.Pair{num("src", 3), text("host", "a\"b\x01")}}, `t=12 ev=accept src=3 host="a\"b\x01"`)
}

func TestEncodeNumbers(t *testing.T) {
	for n, want := range map[uint64]string{0: "0", 1: "1", 9: "9", 10: "10", 100: "100", 1 << 63: "9223372036854775808", math.MaxUint64: "18446744073709551615"} {
		writes(t, api.Line{Time: n, Event: "x", Pairs: []api.Pair{num("k", n)}}, "t="+want+" ev=x k="+want)
	}
}

func TestEncodeEveryByte(t *testing.T) {
	const digits = "0123456789abcdef"
	for c := range 256 {
		b := string([]byte{byte(c)})
		want := b
		switch {
		case c == '"' || c == '\\':
			want = `\` + b
		case c < 32 || c > 126:
			want = `\x` + digits[c/16:c/16+1] + digits[c%16:c%16+1]
		}
		writes(t, line(text("k", "<"+b+">")), `t=1 ev=a k="<`+want+`>"`)
	}
	writes(t, line(text("k", "é€")), `t=1 ev=a k="\xc3\xa9\xe2\x82\xac"`)
	writes(t, line(text("k", "")), `t=1 ev=a k=""`)
}

// Of a number's pair the text does not count, of a text's the number does not.
func TestEncodeWhatDoesNotCount(t *testing.T) {
	writes(t, line(api.Pair{Key: "k", IsNum: true, Num: 7, Text: "\x00no"}), `t=1 ev=a k=7`)
	writes(t, line(api.Pair{Key: "k", IsNum: true, Num: 7, Text: strings.Repeat("x", 5000)}), `t=1 ev=a k=7`)
	writes(t, line(api.Pair{Key: "k", Num: 7, Text: "s"}), `t=1 ev=a k="s"`)
}

func TestEncodeWords(t *testing.T) {
	for _, w := range goodWords() {
		writes(t, api.Line{Event: w}, "t=0 ev="+w)
		if w != "t" && w != "ev" {
			writes(t, line(text(w, "x"), num("last", 2)), "t=1 ev=a "+w+`="x" last=2`)
		}
	}
	for _, w := range badWords() {
		refuses(t, "event "+w, api.Line{Event: w}, api.ErrLogsName)
		refuses(t, "key "+w, line(num(w, 1)), api.ErrLogsName)
		refuses(t, "last key "+w, line(num("k", 1), text(w, "")), api.ErrLogsName)
	}
}

func TestEncodeKeys(t *testing.T) {
	for _, key := range []string{"t", "ev"} {
		refuses(t, key, line(num(key, 1)), api.ErrLogsName)
		refuses(t, key, line(num("k", 1), text(key, "")), api.ErrLogsName)
	}
	refuses(t, "twice", line(num("k", 1), num("k", 1)), api.ErrLogsName)
	refuses(t, "twice", line(num("k", 1), num("m", 1), text("k", "")), api.ErrLogsName)
	writes(t, api.Line{Event: "k", Pairs: []api.Pair{num("k", 1), num("kk", 2), num("te", 3), num("e", 4)}}, "t=0 ev=k k=1 kk=2 te=3 e=4")
}

func TestEncodePairs(t *testing.T) {
	for n := range api.MaxPairs + 1 {
		want := "t=1 ev=a"
		for i := range n {
			want += " k" + strconv.Itoa(i) + "=" + strconv.Itoa(i)
		}
		writes(t, line(pairs(n)...), want)
	}
	refuses(t, "17 pairs", line(pairs(17)...), api.ErrTooMany)
	refuses(t, "500 pairs", line(pairs(500)...), api.ErrTooMany)
}

func TestEncodeLong(t *testing.T) {
	for n := range 4 {
		free := api.MaxLine - len(`t=1 ev=a k=""`) - 4*n
		hard := strings.Repeat("\x00", n)
		writes(t, line(text("k", hard+strings.Repeat("x", free))), `t=1 ev=a k="`+strings.Repeat(`\x00`, n)+strings.Repeat("x", free)+`"`)
		refuses(t, "a byte too long", line(text("k", hard+strings.Repeat("x", free+1))), api.ErrLogsLong)
	}
	refuses(t, "a sign too long", line(text("k", strings.Repeat(`"`, 506))), api.ErrLogsLong)
	writes(t, line(text("k", strings.Repeat(`\`, 505))), `t=1 ev=a k="`+strings.Repeat(`\\`, 505)+`"`)
	for _, n := range []int{1024, 1025, 1 << 20} {
		refuses(t, "long", line(text("k", strings.Repeat("x", n))), api.ErrLogsLong)
		refuses(t, "long behind", line(num("j", 3), text("k", strings.Repeat("\xff", n))), api.ErrLogsLong)
	}
	half := strings.Repeat("y", 510)
	refuses(t, "two halves", line(text("j", half), text("k", half)), api.ErrLogsLong)
}

// Where several errors apply, the first one holds.
func TestEncodeOrder(t *testing.T) {
	long := text("z", strings.Repeat("x", 2000))
	many := append(pairs(16), long)
	refuses(t, "event, many, key, long", api.Line{Event: "A", Pairs: append(pairs(16), text("t", long.Text))}, api.ErrLogsName)
	refuses(t, "event, long", api.Line{Event: strings.Repeat("a", 2000), Pairs: []api.Pair{long}}, api.ErrLogsName)
	refuses(t, "many, long", line(many...), api.ErrTooMany)
	refuses(t, "many, key", line(append(pairs(16), num("k0", 1))...), api.ErrTooMany)
	refuses(t, "many, key", line(append([]api.Pair{num("", 1)}, pairs(16)...)...), api.ErrTooMany)
	refuses(t, "long, key", line(long, num("ev", 1)), api.ErrLogsName)
	refuses(t, "long, twice", line(long, num("z", 1)), api.ErrLogsName)
	refuses(t, "key is long", line(num(strings.Repeat("k", 2000), 1)), api.ErrLogsName)
}
