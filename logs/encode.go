package logs

import (
	"strconv"
	"strings"

	"drawbridge/api"
)

// hexDigits are the digits of an \x.
const hexDigits = "0123456789abcdef"

// Encode writes a line.
func Encode(l api.Line) (string, api.Errno) {
	if e := mayWrite(l); e != api.OK {
		return "", e
	}
	var b strings.Builder
	pen{text: b.WriteString, sign: b.WriteByte}.line(l)
	if b.Len() > api.MaxLine {
		return "", api.ErrLogsLong
	}
	return b.String(), api.OK
}

// mayWrite says what stands against a line ahead of its being written.
func mayWrite(l api.Line) api.Errno {
	if !isWord(l.Event) {
		return api.ErrLogsName
	}
	if len(l.Pairs) > api.MaxPairs {
		return api.ErrTooMany
	}
	for i, p := range l.Pairs {
		if !isKey(p.Key, l.Pairs[:i]) {
			return api.ErrLogsName
		}
	}
	// A text that alone is too long would be written in vain, however long it is.
	for _, p := range l.Pairs {
		if !p.IsNum && len(p.Text) > api.MaxLine {
			return api.ErrLogsLong
		}
	}
	return api.OK
}

// pen writes by a builder's own methods.
type pen struct {
	text func(string) (int, error)
	sign func(byte) error
}

// line writes a whole line.
func (p pen) line(l api.Line) {
	p.text("t=")
	p.number(l.Time)
	p.text(" ev=")
	p.text(l.Event)
	for _, x := range l.Pairs {
		p.sign(' ')
		p.text(x.Key)
		p.sign('=')
		p.value(x)
	}
}

// value writes what a pair's key has.
func (p pen) value(x api.Pair) {
	if x.IsNum {
		p.number(x.Num)
		return
	}
	p.sign('"')
	for i := range len(x.Text) {
		p.letter(x.Text[i])
	}
	p.sign('"')
}

// letter writes a byte of a text.
func (p pen) letter(c byte) {
	switch {
	case !isPlain(c):
		p.text(`\x`)
		p.sign(hexDigits[c>>4])
		p.sign(hexDigits[c&15])
	case c == '"', c == '\\':
		p.sign('\\')
		fallthrough
	default:
		p.sign(c)
	}
}

func (p pen) number(n uint64) { p.text(strconv.FormatUint(n, 10)) }
