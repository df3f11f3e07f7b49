package logs

import (
	"math"
	"strings"

	"drawbridge/api"
)

// Parse reads one: the line, or where it is none.
func Parse(s string) (api.Line, int, api.Errno) {
	if len(s) > api.MaxLine {
		return api.Line{}, 0, api.ErrLogsLong
	}
	r := reader{s: s}
	l := r.line()
	if r.wrong {
		return api.Line{}, r.at, api.ErrLogsText
	}
	return l, 0, api.OK
}

// reader reads a text from the front on.
//
// Once something is wrong it reads nothing more, so that its place stays: who
// reads need not ask behind each step.
type reader struct {
	s     string
	at    int // where the next byte stands; where it is wrong, if it is
	wrong bool
}

// step is where the reading of a line goes on.
type step int

const (
	atTime step = iota
	atEvent
	atKey
	atValue
)

// line reads a whole line.
func (r *reader) line() api.Line {
	var l api.Line
	var p api.Pair
	for next := atTime; ; next = atKey {
		switch next {
		case atTime:
			r.literal("t=")
			l.Time = r.number()
			fallthrough
		case atEvent:
			r.literal(" ev=")
			l.Event = r.word()
			if r.over() {
				return l
			}
			fallthrough
		case atKey:
			r.literal(" ")
			p = api.Pair{Key: r.key(l.Pairs)}
			fallthrough
		case atValue:
			r.value(&p)
			l.Pairs = append(l.Pairs, p)
		}
		if r.over() {
			return l
		}
	}
}

// key reads a pair's key and the sign behind it.
func (r *reader) key(ahead []api.Pair) string {
	begin := r.at
	if len(ahead) == api.MaxPairs {
		r.fail(begin)
	}
	key := r.word()
	// Ahead of the sign: a key that may not be is wrong whatever stands behind it.
	if !isKey(key, ahead) {
		r.fail(begin)
	}
	r.literal("=")
	return key
}

// value reads what the pair's key has.
func (r *reader) value(p *api.Pair) {
	if r.is('"') {
		p.Text = r.text()
		return
	}
	p.IsNum, p.Num = true, r.number()
}

// word reads one, as far as there are bytes of words.
func (r *reader) word() string {
	begin := r.at
	for !r.over() && inWord(r.s[r.at]) {
		r.at++
	}
	word := r.s[begin:r.at]
	if !isWord(word) {
		r.fail(begin)
	}
	return strings.Clone(word)
}

// number reads one.
func (r *reader) number() uint64 {
	begin := r.at
	n := uint64(0)
	for !r.over() && isDigit(r.s[r.at]) {
		d := uint64(r.s[r.at] - '0')
		behindNought := n == 0 && r.at > begin
		if behindNought || n > (math.MaxUint64-d)/10 {
			r.fail(r.at)
			return 0
		}
		n = 10*n + d
		r.at++
	}
	if r.at == begin {
		r.fail(begin)
	}
	return n
}

// text reads one, with the signs around it.
func (r *reader) text() string {
	var b strings.Builder
	r.literal(`"`)
	for !r.over() && !r.is('"') {
		b.WriteByte(r.letter())
	}
	r.literal(`"`)
	return b.String()
}

// letter reads a byte of a text, as it is or behind a \.
func (r *reader) letter() byte {
	begin := r.at
	c := r.s[begin]
	if c != '\\' {
		if !isPlain(c) {
			r.fail(begin)
			return 0
		}
		r.at++
		return c
	}
	r.at++
	if r.is('"') || r.is('\\') {
		r.at++
		return r.s[begin+1]
	}
	r.literal("x")
	c = r.hexDigit() << 4
	c |= r.hexDigit()
	if isPlain(c) {
		r.fail(begin)
	}
	return c
}

// hexDigit reads a digit of an \x.
func (r *reader) hexDigit() byte {
	if r.over() {
		r.fail(r.at)
		return 0
	}
	d := strings.IndexByte(hexDigits, r.s[r.at])
	if d < 0 {
		r.fail(r.at)
		return 0
	}
	r.at++
	return byte(d)
}

// literal reads what must stand there.
func (r *reader) literal(s string) {
	for i := range len(s) {
		if !r.is(s[i]) {
			r.fail(r.at)
			return
		}
		r.at++
	}
}

// is: does this byte come next?
func (r *reader) is(c byte) bool { return !r.over() && r.s[r.at] == c }

// over: is there nothing more to read?
func (r *reader) over() bool { return r.wrong || r.at == len(r.s) }

// fail says that it is wrong there; the first place holds.
func (r *reader) fail(at int) {
	if !r.wrong {
		r.wrong, r.at = true, at
	}
}
