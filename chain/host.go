package chain

import (
	"iter"
	"strings"
)

// Bounds of hosts.
const (
	maxHost  = 253
	maxLabel = 63
)

// point stands between labels; anyLabel is how a pattern begins that has many hosts, which are under one of leastUnder labels at least.
const (
	point      = "."
	anyLabel   = "*."
	leastUnder = 2
)

// labels tells the labels of a name one by one.
func labels(name string) iter.Seq[string] {
	return func(yield func(string) bool) {
		for rest, more := name, true; more; {
			var label string
			label, rest, more = strings.Cut(rest, point)
			if !yield(label) {
				return
			}
		}
	}
}

// labelsOf is how many labels a host has; 0 of what is none.
func labelsOf(name string) int {
	if len(name) > maxHost {
		return 0
	}
	n := 0
	for label := range labels(name) {
		if !isLabel(label) {
			return 0
		}
		n++
	}
	return n
}

func isLabel(label string) bool {
	if len(label) < 1 || len(label) > maxLabel || label[0] == '-' || label[len(label)-1] == '-' {
		return false
	}
	for i := range len(label) {
		if !isLabelByte(label[i]) {
			return false
		}
	}
	return true
}

func isLabelByte(c byte) bool {
	return c >= 'a' && c <= 'z' || c >= 'A' && c <= 'Z' || c >= '0' && c <= '9' || c == '-'
}

// sameHost: of what is a host only ASCII's letters have small ones.
func sameHost(a string, b string) bool { return strings.ToLower(a) == strings.ToLower(b) }
