package logs_test

import (
	"math"
	"reflect"
	"strconv"
	"strings"
	"testing"

	"drawbridge/api"
	"drawbridge/logs"
)

// reads: Parse answers this line, and Encode writes the same text again.
func reads(t *testing.T, s string, want api.Line) {
	t.Helper()
	got, at, e := logs.Parse(s)
	if !same(got, want) || at != 0 || e != api.OK {
		t.Errorf("%q is %+v (%d, error %d), want %+v", s, got, at, e, want)
		return
	}
	if again, e := logs.Encode(got); again != s || e != api.OK {
		t.Errorf("%q is written again as %q (error %d)", s, again, e)
	}
}

// same: are they the same line? An empty list may be nil or not.
func same(a api.Line, b api.Line) bool {
	if len(a.Pairs) == 0 && len(b.Pairs) == 0 {
		a.Pairs, b.Pairs = nil, nil
	}
	return reflect.DeepEqual(a, b)
}

// stops: Parse tells that it is wrong there, and no line.
func stops(t *testing.T, s string, want int) {
	t.Helper()
	got, at, e := logs.Parse(s)
	if e != api.ErrLogsText || at != want || !same(got, api.Line{}) {
		t.Errorf("%q: error %d at %d, %+v, want error %d at %d", s, e, at, got, api.ErrLogsText, want)
	}
}

func TestParseExamples(t *testing.T) {
	stops(t, `t=012 ev=a`, 3)
	stops(t, `t=1 ev=a k=`, 11)
	stops(t, `t=1 ev=a k="\x41"`, 12)
	stops(t, `t=1 ev=a t=2`, 9)
	stops(t, `t=1  ev=a`, 4)
	reads(t, `t=12 ev=accept src=3 host="a\"b\x01"`, api.Line{Time: 12, Event: "accept", Pairs: []api.Pair{num("src", 3), text("host", "a\"b\x01")}})
}

func TestParseLines(t *testing.T) {
	reads(t, `t=0 ev=a`, api.Line{Event: "a"})
	reads(t, `t=1 ev=t`, api.Line{Time: 1, Event: "t"})
	reads(t, `t=1 ev=ev k="" kk=0`, api.Line{Time: 1, Event: "ev", Pairs: []api.Pair{text("k", ""), num("kk", 0)}})
	reads(t, `t=1 ev=a tt="t=2 ev=b" e="\\\"" x=1`, line(text("tt", "t=2 ev=b"), text("e", `\"`), num("x", 1)))
	reads(t, `t=1 ev=a x="5" y=5`, line(text("x", "5"), num("y", 5)))
	for _, w := range goodWords() {
		reads(t, "t=7 ev="+w, api.Line{Time: 7, Event: w})
		if w != "t" && w != "ev" {
			reads(t, "t=1 ev=a "+w+`=12 last=""`, line(num(w, 12), text("last", "")))
		}
	}
}

// A text that is cut off is wrong at its end, wherever it is cut; but where it is a line already, or a key is left that may not be.
func TestParseCutOff(t *testing.T) {
	whole := []string{
		`t=12 ev=accept src=3 host="a\"b\x01"`,
		`t=0 ev=x k="\\\"\x7f\xff \x00" t1=0 evx=18446744073709551615 kk="" k-_9="="`,
	}
	lines := map[string]bool{}
	for _, s := range []string{"t=12 ev=", "t=0 ev="} {
		for _, event := range []string{"a", "ac", "acc", "acce", "accep", "accept", "x"} {
			lines[s+event] = true
		}
	}
	lines[`t=12 ev=accept src=3`] = true
	lines[whole[1][:strings.Index(whole[1], " t1")]] = true
	lines[whole[1][:strings.Index(whole[1], " evx")]] = true
	for d := range len("18446744073709551615") {
		lines[whole[1][:strings.Index(whole[1], "1844")+d+1]] = true
	}
	lines[whole[1][:strings.Index(whole[1], " k-_9")]] = true
	begins := map[string]int{}
	for next, left := range map[string]string{" t1": " t", " evx": " ev", " kk": " k", " k-_9": " k"} {
		at := strings.Index(whole[1], next)
		begins[whole[1][:at]+left] = at + 1
	}
	for _, s := range whole {
		for i := range len(s) {
			if at, left := begins[s[:i]]; left {
				stops(t, s[:i], at)
			} else if !lines[s[:i]] {
				stops(t, s[:i], i)
			} else if _, at, e := logs.Parse(s[:i]); at != 0 || e != api.OK {
				t.Errorf("%q: error %d at %d", s[:i], e, at)
			}
		}
		if _, _, e := logs.Parse(s); e != api.OK {
			t.Errorf("%q: error %d", s, e)
		}
	}
}

func TestParseNumbers(t *testing.T) {
	for _, n := range []uint64{0, 1, 9, 10, 99, 1 << 63, math.MaxUint64 - 6, math.MaxUint64 - 5, math.MaxUint64} {
		d := strconv.FormatUint(n, 10)
		reads(t, "t="+d+" ev=a k="+d+` m=""`, api.Line{Time: n, Event: "a", Pairs: []api.Pair{num("k", n), text("m", "")}})
	}
	for digits, off := range map[string]int{
		"18446744073709551616":   19,
		"18446744073709551619":   19,
		"184467440737095516150":  20,
		"18446744073709551620":   19,
		"18446744073709551700":   19, // ..70 is ten times it
		"20000000000000000000":   19,
		"99999999999999999999":   19,
		"100000000000000000000":  20,
		"1844674407370955161599": 20,
		"00":                     1,
		"01":                     1,
		"000":                    1,
		"-1":                     0,
		"+1":                     0,
		"x":                      0,
		" 1":                     0,
		"1.":                     1,
		"1e3":                    1,
		"0x1":                    1,
		"1_0":                    1,
		"1\"":                    1,
	} {
		stops(t, "t="+digits+" ev=a", 2+off)
		if digits[0] != '"' {
			stops(t, "t=1 ev=a k="+digits, 11+off)
			stops(t, "t=1 ev=a k="+digits+" m=1", 11+off)
		}
	}
}

func TestParseEveryByteOfAText(t *testing.T) {
	const digits = "0123456789abcdef"
	for c := range 256 {
		b := string([]byte{byte(c)})
		hex := digits[c/16:c/16+1] + digits[c%16:c%16+1]
		bare, slashed, coded := `t=1 ev=a k="`+b+`"`, `t=1 ev=a k="\`+b+`"`, `t=1 ev=a k="`+`\x`+hex+`"`
		switch {
		case c == '"': // it ends the text
			stops(t, bare, 13)
			reads(t, slashed, line(text("k", b)))
			stops(t, coded, 12)
		case c == '\\': // the sign that ends the text is not its end
			stops(t, bare, 14)
			reads(t, slashed, line(text("k", b)))
			stops(t, coded, 12)
		case c >= 32 && c < 127:
			reads(t, bare, line(text("k", b)))
			stops(t, coded, 12)
		default:
			stops(t, bare, 12)
			reads(t, coded, line(text("k", b)))
		}
		if c != '"' && c != '\\' && c != 'x' {
			stops(t, slashed, 13)
		}
	}
}

func TestParseHex(t *testing.T) {
	for c := range 256 {
		b := string([]byte{byte(c)})
		if !strings.Contains("0123456789abcdef", b) {
			stops(t, `t=1 ev=a k="ab\x`+b+`1"`, 16)
			stops(t, `t=1 ev=a k="ab\x1`+b+`"`, 17)
			stops(t, `t=1 ev=a k="ab\x4`+b+`"`, 17)
		}
	}
	stops(t, `t=1 ev=a k="\x`, 14)
	stops(t, `t=1 ev=a k="\x0`, 15)
	stops(t, `t=1 ev=a k="\x4`, 15)
	stops(t, `t=1 ev=a k="\x00`, 16)
	stops(t, `t=1 ev=a k="\x41`, 12)
	stops(t, `t=1 ev=a k="ab\x00\x20\x00"`, 18)
	stops(t, `t=1 ev=a k="\x7e"`, 12)
	stops(t, `t=1 ev=a k="\x22"`, 12)
	stops(t, `t=1 ev=a k="\x5c"`, 12)
	reads(t, `t=1 ev=a k="\x1f \x7f\x80"`, line(text("k", "\x1f \x7f\x80")))
}

func TestParseWords(t *testing.T) {
	long := strings.Repeat("a", 33)
	for _, end := range []string{"", " k=1", "B", "="} {
		stops(t, "t=1 ev="+long+end, 7)
		stops(t, "t=1 ev="+long+long+end, 7)
	}
	for _, end := range []string{"", "=1", "B", " "} {
		stops(t, "t=1 ev=a "+long+end, 9)
		stops(t, "t=1 ev=a k=1 "+long+end, 13)
	}
	for _, w := range []string{"0", "9a", "-a", "_a", "A", " a", "=", "\"", "\x00", "\xc3\xa4"} {
		stops(t, "t=1 ev="+w, 7)
		stops(t, "t=1 ev=a "+w+"=1", 9)
		stops(t, "t=1 ev=a k=\"\" "+w+"=1", 14)
	}
	for c := range 256 {
		b := string([]byte{byte(c)})
		if strings.Contains("abcdefghijklmnopqrstuvwxyz0123456789-_", b) {
			continue
		}
		if b != " " {
			stops(t, "t=1 ev=ab"+b+" k=1", 9)
			stops(t, `t=1 ev=ab k="x"`+b+"m=1", 15)
		}
		if b != "=" {
			stops(t, "t=1 ev=a kk"+b+"=1", 11)
		}
	}
}

func TestParseKeys(t *testing.T) {
	stops(t, `t=1 ev=a ev=2`, 9)
	stops(t, `t=1 ev=a k=2 t="`, 13)
	stops(t, `t=1 ev=a k=2 ev=`, 13)
	stops(t, `t=1 ev=a k=2 k=2`, 13)
	stops(t, `t=1 ev=a k="" m=5 k=2 m=2`, 18)
	reads(t, `t=1 ev=a a=2 tt=3 e=4 eve=5`, line(num("a", 2), num("tt", 3), num("e", 4), num("eve", 5)))
}

// A key that may not be is wrong where it begins, whatever stands behind it; of one that may be, what stands behind it.
func TestParseKeysWhateverIsBehind(t *testing.T) {
	long := strings.Repeat("k", 32)
	bad := map[string]int{
		`t=1 ev=a t`:                              9,
		`t=1 ev=a ev`:                             9,
		`t=1 ev=a k=2 t`:                          13,
		`t=1 ev=a k=2 ev`:                         13,
		`t=1 ev=a k=2 k`:                          13,
		`t=1 ev=a k="" k`:                         14,
		`t=1 ev=a k="" m=5 k`:                     18,
		`t=1 ev=a ` + long + `=1 ` + long:         44,
		`t=1 ev=a k=1 ` + long + `=1 m=2 ` + long: 52,
	}
	for s, at := range bad {
		stops(t, s, at)
		for c := range 256 {
			b := string([]byte{byte(c)})
			if !strings.Contains("abcdefghijklmnopqrstuvwxyz0123456789-_", b) {
				stops(t, s+b, at)
				stops(t, s+b+"=1", at)
				stops(t, s+b+"x=1", at)
			}
		}
	}
	for _, s := range []string{`t=1 ev=a te`, `t=1 ev=a eve`, `t=1 ev=a k=2 kk`, `t=1 ev=a k=2 k-`, `t=1 ev=a tt=2 e`, `t=1 ev=k k`} {
		for _, end := range []string{"", " ", " x=1", "\"", ":", "\x00"} {
			stops(t, s+end, len(s))
		}
	}
}

func TestParsePairs(t *testing.T) {
	full, e := logs.Encode(line(pairs(16)...))
	if e != api.OK {
		t.Fatal(e)
	}
	reads(t, full, line(pairs(16)...))
	for _, end := range []string{"", "k", "k16=1", "k16=", "k0=1", "t=1", "=", "!", strings.Repeat("k", 40)} {
		stops(t, full+" "+end, len(full)+1)
	}
	stops(t, full+"!", len(full))
}

func TestParseBehindAndBetween(t *testing.T) {
	for s, at := range map[string]int{
		"":                     0,
		" t=1 ev=a":            0,
		"T=1 ev=a":             0,
		"tt=1 ev=a":            1,
		"t =1 ev=a":            1,
		"t= 1 ev=a":            2,
		"ev=a t=1":             0,
		"t=1":                  3,
		"t=1 ":                 4,
		"t=1 e":                5,
		"t=1 e=a":              5,
		"t=1 ev a":             6,
		"t=1 k=1 ev=a":         4,
		"t=1 ev=a ":            9,
		"t=1 ev=a  k=1":        9,
		"t=1 ev=a k":           10,
		"t=1 ev=a k =1":        10,
		"t=1 ev=a k= 1":        11,
		"t=1 ev=a k=x":         11,
		"t=1 ev=a k='x'":       11,
		"t=1 ev=a k=1 ":        13,
		"t=1 ev=a\n":           8,
		"t=1 ev=a k=1\n":       12,
		"t=1\tev=a":            3,
		`t=1 ev=a k="x" `:      15,
		`t=1 ev=a k="x`:        13,
		`t=1 ev=a k="x""`:      14,
		`t=1 ev=a k="x"m=1`:    14,
		`t=1 ev="a"`:           7,
		`t="1" ev=a`:           2,
		`t=1 ev=a k=1"x"`:      12,
		"t=1 ev=a k=\"x\ny\"":  13,
		"t=1 ev=a k=\"x\xc3\"": 13,
	} {
		stops(t, s, at)
	}
}

func TestParseLong(t *testing.T) {
	free := api.MaxLine - len(`t=1 ev=a k=""`)
	x := strings.Repeat("x", free)
	reads(t, `t=1 ev=a k="`+x+`"`, line(text("k", x)))
	stops(t, `t=1 ev=a k="`+x+`!`, api.MaxLine)
	for _, s := range []string{`t=1 ev=a k="` + x + `x"`, strings.Repeat("t", 1025), strings.Repeat(" ", 1<<20)} {
		if got, at, e := logs.Parse(s); !same(got, api.Line{}) || at != 0 || e != api.ErrLogsLong {
			t.Errorf("%d bytes: %+v, error %d at %d", len(s), got, e, at)
		}
	}
}
