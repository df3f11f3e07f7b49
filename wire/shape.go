package wire

import "drawbridge/api"

// shape is what lists of a kind have in common, whoever reads or writes one.
type shape struct {
	size  int // how many bytes tell its length
	least int // how many parts it has, at least
	most  int
}

// many is more than the parts of any list: three bytes are the most that tell a length.
const many = 1 << 24

// maxLength is the greatest length that a list's number can tell.
func (s shape) maxLength() int { return 1<<(8*s.size) - 1 }

// fits: may a list have so many parts?
func (s shape) fits(parts int) bool { return parts >= s.least && parts <= s.most }

// free are lists of as many parts as there are.
func free(size int) shape { return shape{size, 0, many} }

// filled are lists that have a part at least.
func filled(size int) shape { return shape{size, 1, many} }

func exactly(parts int, size int) shape { return shape{size, parts, parts} }

func sessionShape() shape { return shape{1, 0, maxSession} }

func binderShape() shape { return shape{1, minBinder, many} }

const (
	maxSession = 32
	minBinder  = 32
)

// What stands where one byte alone may.
const (
	noCompression = 0
	hostName      = 0
	stapleOfOne   = 1
)

// twice: does a type stand twice among extensions?
func twice(l []api.Ext) bool {
	seen := make(map[uint16]struct{})
	for _, x := range l {
		seen[x.Type] = struct{}{}
	}
	return len(seen) < len(l)
}

// ticketsLast: do the tickets, whose binders are about all that is ahead of them, stand last, if they are there?
func ticketsLast(l []api.Ext) bool {
	for i, x := range l {
		if x.Type == api.ExtPSK && i != len(l)-1 {
			return false
		}
	}
	return true
}
