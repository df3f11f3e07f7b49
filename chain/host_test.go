package chain_test

import (
	"crypto/x509"
	"math/rand"
	"regexp"
	"strings"
	"testing"

	"drawbridge/chain"
)

// aLabel is what a label is, but for how long it may be.
var aLabel = regexp.MustCompile(`^[a-zA-Z0-9]([-a-zA-Z0-9]*[a-zA-Z0-9])?$`)

// rightHost is Host, as the document tells it.
func rightHost(name string) bool {
	for _, label := range strings.Split(name, ".") {
		if len(label) > 63 || !aLabel.MatchString(label) {
			return false
		}
	}
	return len(name) >= 1 && len(name) <= 253
}

// rightMatches is Matches, as the document tells it.
func rightMatches(pattern, name string) bool {
	if !rightHost(name) {
		return false
	}
	if rightHost(pattern) {
		return strings.EqualFold(pattern, name)
	}
	if !strings.HasPrefix(pattern, "*.") || !rightHost(pattern[2:]) || !strings.Contains(pattern[2:], ".") {
		return false
	}
	at := strings.Index(name, ".")
	return at >= 0 && strings.EqualFold(name[at+1:], pattern[2:])
}

// host and matches are what the program says, which must be what the document does.
func host(t *testing.T, name string) bool {
	t.Helper()
	got := chain.Host(name)
	if got != rightHost(name) {
		t.Fatalf("Host(%q): %v", name, got)
	}
	return got
}

func matches(t *testing.T, pattern, name string) bool {
	t.Helper()
	got := chain.Matches(pattern, name)
	if got != rightMatches(pattern, name) {
		t.Fatalf("Matches(%q, %q): %v", pattern, name, got)
	}
	return got
}

func x(n int) string { return strings.Repeat("x", n) }

func TestHosts(t *testing.T) {
	long := strings.Join([]string{x(63), x(63), x(63), x(61)}, ".")
	for _, name := range []string{
		"a", "Z", "0", "a.b", "a-b", "A-1.b", "a--b", "x.y.z", "0.9", "127.0.0.1", "xn--a.b", x(63), x(63) + ".b", long, long[:252],
		strings.Repeat("a.", 126) + "a",
	} {
		if !host(t, name) {
			t.Errorf("%q is one", name)
		}
	}
	for _, name := range []string{
		"", ".", "..", "a.", ".a", "a..b", "a.b.", "-", "-a", "a-", "a-.b", "a.-b", "a.b-", "-.a", "a_b", "a b", " a", "a ", "a\n", "a\x00",
		"*", "*.a", "*.a.b", "a.*.b", "a:1", "[a]", "a/b", "\u00e4.b", "\u212a", "\u017f.a", "\xff", "\uff0e", "a\uff0eb",
		x(64), x(64) + ".b", "b." + x(64), long + "x", long + ".x", strings.Repeat("a.", 127) + "a", x(254), x(1 << 20), strings.Repeat("a.", 1<<20),
	} {
		if host(t, name) {
			t.Errorf("%q is none", name)
		}
	}
}

// Each byte, wherever it stands in a label.
func TestBytesOfLabels(t *testing.T) {
	for c := range 256 {
		b := string([]byte{byte(c)})
		for _, around := range [][2]string{{"", ""}, {"a", ""}, {"", "a"}, {"a", "a"}, {"x.a", "a"}, {"a", "a.y"}, {"x.", ".y"}} {
			host(t, around[0]+b+around[1])
		}
	}
}

// Labels and hosts as long as may be, and others.
func TestLengthsOfHosts(t *testing.T) {
	for n := range 300 {
		host(t, x(n))
		host(t, "a."+x(n)+".b")
		host(t, (x(50) + "." + x(50) + "." + x(50) + "." + x(50) + "." + x(50) + "." + x(50))[:n])
		host(t, strings.Repeat("a.", n)+"b")
	}
}

func TestExamplesOfMatches(t *testing.T) {
	for _, c := range []struct {
		pattern, name string
		is            bool
	}{
		{"*.a.b", "X.a.B", true}, {"*.a.b", "a.b", false}, {"*.a.b", "y.x.a.b", false}, {"*.b", "a.b", false},
		{"a.b", "A.B", true}, {"A.b", "a.B", true}, {"a", "A", true}, {"a.b", "a.c", false}, {"a.b", "x.a.b", false}, {"x.a.b", "a.b", false},
		{"*.a.b.c", "x.A.b.C", true}, {"*.A.B", "x.a.b", true}, {"*.a.b", "-.a.b", false}, {"*.a.b", ".a.b", false}, {"*.a.b", "*.a.b", false},
		{"*.*.a.b", "x.y.a.b", false}, {"*a.b.c", "xa.b.c", false}, {"x*.b.c", "xa.b.c", false}, {"*", "a", false}, {"*.", "a.", false}, {"*..", "a..", false}, {"*.a.", "x.a.", false},
		{"", "", false}, {"", "a", false}, {"a", "", false}, {"a.", "a.", false}, {"*.a..b", "x.a..b", false}, {"*.a.b.", "x.a.b", false}, {"a.b.", "a.b", false}, {"**.a.b", "x.a.b", false},
		// Great letters are those of ASCII: others whose small ones are alike may not be.
		{"\u212a.a", "k.a", false}, {"k.a", "\u212a.a", false}, {"*.\u212a.a", "x.k.a", false}, {"\u017f.a", "s.a", false}, {"*.\u017f.a", "x.s.a", false},
	} {
		if matches(t, c.pattern, c.name) != c.is {
			t.Error(c)
		}
	}
}

// A pattern may be longer than any host; what it has is not.
func TestLongPatterns(t *testing.T) {
	under := strings.Join([]string{x(63), x(63), x(63)}, ".")
	for n := 1; n < 64; n++ {
		name := x(n) + "." + under
		if matches(t, "*."+under, name) != (len(name) <= 253) {
			t.Error(n)
		}
		if matches(t, name, strings.ToUpper(name)) != (len(name) <= 253) {
			t.Error(n)
		}
		matches(t, "*."+name, x(1)+"."+name)
		matches(t, "*."+name, name)
	}
	for _, long := range []string{strings.Repeat("a.", 1<<20) + "a", "*." + strings.Repeat("a.", 1<<20) + "a"} {
		if chain.Matches(long, "a.a.a") || chain.Matches("a.a.a", long) || chain.Matches(long, long) {
			t.Error("too long")
		}
	}
}

// All short texts of a few bytes, held against each other.
func TestMatchesOfShortTexts(t *testing.T) {
	texts := []string{""}
	for at := 0; len(texts[at]) < 5; at++ {
		for _, c := range "aA-.*" {
			texts = append(texts, texts[at]+string(c))
		}
	}
	names := []string{"a", "a.a", "A.a.a", "a.A.a.a", "aa.a.a", "-a.a.a", "a.a-.a", "a..a", "*.a.a", "aA.aA", "a-a.a.A"}
	for _, text := range texts {
		host(t, text)
		for _, name := range names {
			matches(t, text, name)
			matches(t, name, text)
			matches(t, "*."+text, name)
			matches(t, "*."+text, "a."+text)
			matches(t, text, strings.ToLower(text))
		}
	}
}

func TestMatchesOfTextsByChance(t *testing.T) {
	r := rand.New(rand.NewSource(16))
	word := func() string {
		b := make([]byte, r.Intn(9))
		for i := range b {
			b[i] = "aaAbB1-.....*_"[r.Intn(14)]
		}
		return string(b)
	}
	met := 0
	for range 200000 {
		a, b := word(), word()
		if r.Intn(2) == 0 {
			a = "*." + a
		}
		if r.Intn(2) == 0 {
			b = "ab." + strings.TrimPrefix(strings.ToUpper(a), "*.")
		}
		if matches(t, a, b) {
			met++
		}
	}
	if met < 1000 {
		t.Error("hardly met:", met)
	}
}

// The library says the same of hosts, and of patterns with two labels behind the first one.
func TestMatchesAsTheLibraryDoes(t *testing.T) {
	names := []string{"a", "a.b", "A.b", "x.a.b", "X.A.B", "y.x.a.b", "x.a.b.c", "a.b.c", "aa.b"}
	for _, pattern := range append([]string{"*.a.b", "*.x.a.b", "*.b.c", "*.A.b"}, names...) {
		for _, name := range names {
			c := &x509.Certificate{DNSNames: []string{pattern}}
			if chain.Matches(pattern, name) != (c.VerifyHostname(name) == nil) {
				t.Errorf("%q, %q: %v", pattern, name, c.VerifyHostname(name))
			}
		}
	}
}
