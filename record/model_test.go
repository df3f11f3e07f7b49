package record_test

import (
	"math/rand"
	"strings"
	"testing"

	"drawbridge/api"
	"drawbridge/record"
	"drawbridge/suite"
)

// model is a reader as the document tells it, with a text for what it holds.
type model struct {
	by     *lock
	number uint64
	held   string
	skip   int
	quiet  bool
	dead   api.Alert
}

func (m *model) feed(b []byte) int {
	if m.dead != api.AlertNone {
		return 0
	}
	n := min(len(b), room-len(m.held))
	m.held += string(b[:n])
	return n
}

// answer is what Next answers.
type answer struct {
	c    api.Content
	text string
	is   bool
	a    api.Alert
}

// next is D3 step by step.
func (m *model) next() answer {
	if m.dead != api.AlertNone {
		return answer{a: m.dead}
	}
	var got answer
	for again := true; again; {
		got, again = m.look()
	}
	if got.a != api.AlertNone {
		m.dead, m.held = got.a, ""
	}
	return got
}

// look is one turn of it; true: the next record is looked at.
func (m *model) look() (answer, bool) {
	unexpected := answer{a: api.AlertUnexpected}
	if len(m.held) < 5 { // 1
		return answer{}, false
	}
	c := api.Content(m.held[0])
	if c < 20 || c > 23 { // 2
		return unexpected, false
	}
	n := int(m.held[3])*256 + int(m.held[4])
	if n > 16640 || n > 16384 && c != api.ContentData { // 3
		return answer{a: api.AlertOverflow}, false
	}
	if len(m.held) < 5+n { // 4
		return answer{}, false
	}
	head, body := m.held[:5], m.held[5:5+n]
	m.held = m.held[5+n:]
	if c == api.ContentChange { // 5
		if m.quiet && body == "\x01" {
			return answer{}, true
		}
		return unexpected, false
	}
	if m.by == nil { // 6
		if c == api.ContentData {
			if n <= m.skip {
				m.skip -= n
				return answer{}, true
			}
			return unexpected, false
		}
		if n == 0 {
			return unexpected, false
		}
		return answer{c, body, true, 0}, false
	}
	if c != api.ContentData { // 7
		return unexpected, false
	}
	_, open := m.by.aead()
	opened, is := open(m.number, []byte(head), []byte(body))
	if !is {
		if n <= m.skip {
			m.skip -= n
			return answer{}, true
		}
		return answer{a: api.AlertRecordMac}, false
	}
	m.skip = 0
	m.number++
	return m.within(strings.TrimRight(string(opened), "\x00")), false
}

// within is the rest of 7.
func (m *model) within(s string) answer {
	if s == "" {
		return answer{a: api.AlertUnexpected}
	}
	c, text := api.Content(s[len(s)-1]), s[:len(s)-1]
	if len(text) > 16384 {
		return answer{a: api.AlertOverflow}
	}
	if c != api.ContentAlert && c != api.ContentHandshake && c != api.ContentData || text == "" && c != api.ContentData {
		return answer{a: api.AlertUnexpected}
	}
	return answer{c, text, true, 0}
}

// nearMost is a length about those that bound a text and what is locked up.
func nearMost(r *rand.Rand) int { return []int{16384, 16640 - 16 - 1}[r.Intn(2)] + r.Intn(5) - 2 }

// someLength is mostly a small one.
func someLength(r *rand.Rand) int {
	if r.Intn(40) == 0 {
		return nearMost(r)
	}
	return r.Intn(4) * r.Intn(12)
}

// sender makes records, right ones by the number that comes next, and now and then wrong ones.
type sender struct {
	by     *lock
	number uint64
	wrong  int // one of so many is
}

func (s *sender) one(r *rand.Rand) []byte {
	if r.Intn(s.wrong) == 0 {
		return s.bad(r)
	}
	if r.Intn(6) == 0 {
		return plain(api.ContentChange, []byte{1})
	}
	text := random(r, min(1+someLength(r), 16384))
	if s.by == nil {
		return plain(api.Content(21+r.Intn(2)), text)
	}
	c := api.Content(21 + r.Intn(3))
	if c == api.ContentData && r.Intn(3) == 0 {
		text = nil
	}
	s.number++
	return s.by.sealed(s.number-1, inner(c, text, r.Intn(3)*r.Intn(20)))
}

// bad is a record that is mostly wrong.
func (s *sender) bad(r *rand.Rand) []byte {
	text, c := random(r, someLength(r)), api.Content(r.Intn(256))
	if r.Intn(4) == 0 {
		text, c = random(r, nearMost(r)), api.ContentData
	}
	k := r.Intn(8)
	switch {
	case k == 0:
		return random(r, r.Intn(8))
	case k < 3:
		return plain(api.ContentData, text)
	case k == 3:
		return plain(api.Content(20+r.Intn(5)), text)
	case s.by == nil:
		return plain(c, text)
	case k == 4:
		return s.by.sealed(uint64(r.Intn(3)), inner(api.ContentData, text, 0))
	}
	s.number++
	if k == 5 {
		c = api.Content(20 + r.Intn(5))
	}
	if k == 6 {
		return s.by.sealed(s.number-1, text)
	}
	return s.by.sealed(s.number-1, inner(c, text, r.Intn(9)))
}

// bothReaders are a reader and its model.
type bothReaders struct {
	x *record.Reader
	m *model
}

func (b bothReaders) key(t *testing.T, l lock) {
	t.Helper()
	e := b.x.Key(l.s, l.key, l.iv)
	if !suite.Known(l.s) || suite.KeyLen(l.s) != len(l.key) {
		if e != api.ErrRecordKey {
			t.Fatal(e)
		}
		return
	}
	if e != api.OK {
		t.Fatal(e)
	}
	b.m.by, b.m.number = &l, 0
}

// looks holds what Next answers against the model's.
func (b bothReaders) looks(t *testing.T) answer {
	t.Helper()
	was := *b.m
	want := b.m.next()
	c, text, is, a := b.x.Next()
	if got := (answer{c, string(text), is, a}); got != want || b.x.Held() != len(b.m.held) {
		was.held = was.held[:min(len(was.held), 40)]
		t.Fatalf("%+v: %d, %d bytes, %v, %d, %d are held, want %d, %d bytes, %v, %d, %d are held", was, c, len(text), is, a, b.x.Held(), want.c, len(want.text), want.is, want.a, len(b.m.held))
	}
	return want
}

// step does the same to both; how many bytes they took.
func (b bothReaders) step(t *testing.T, r *rand.Rand, flow []byte) int {
	t.Helper()
	switch k := r.Intn(200); {
	case k < 2:
		n := r.Intn(60) - 10
		b.x.Skip(n)
		b.m.skip = max(n, 0)
	case k == 2:
		b.x.Skip(16640)
		b.m.skip = 16640
	case k < 5:
		is := k == 3
		b.x.Quiet(is)
		b.m.quiet = is
	case k == 5:
		b.key(t, lock{api.Suite(0x1300 + r.Intn(5)), random(r, 16*r.Intn(4)), [12]byte{}})
	case k < 120:
		n := min(len(flow), r.Intn(1+r.Intn(2000)))
		got, want := b.x.Feed(flow[:n]), b.m.feed(flow[:n])
		if got != want || b.x.Held() != len(b.m.held) {
			t.Fatalf("Feed of %d bytes: %d, want %d", n, got, want)
		}
		return got
	default:
		b.looks(t)
	}
	return 0
}

func TestReaderIsAsTheModel(t *testing.T) {
	r := rand.New(rand.NewSource(1))
	ends, texts := map[api.Alert]int{}, 0
	for range 3000 {
		b := bothReaders{record.NewReader(), &model{}}
		if r.Intn(4) != 0 {
			b.key(t, lockOf(r, suites()[r.Intn(3)]))
		}
		quiet := r.Intn(3) != 0
		b.x.Quiet(quiet)
		b.m.quiet = quiet
		s := &sender{wrong: []int{3, 20, 1 << 30}[r.Intn(3)]}
		var flow []byte
		for range 100 {
			if s.by != b.m.by {
				s.by, s.number = b.m.by, 0
			}
			for len(flow) < 50 {
				flow = append(flow, s.one(r)...)
			}
			flow = flow[b.step(t, r, flow):]
			for r.Intn(3) == 0 && b.looks(t).is {
				texts++
			}
		}
		ends[b.m.dead]++
	}
	for _, a := range []api.Alert{api.AlertNone, api.AlertUnexpected, api.AlertOverflow, api.AlertRecordMac} {
		if ends[a] < 30 {
			t.Errorf("too few end with %d: %v", a, ends)
		}
	}
	if texts < 3000 {
		t.Errorf("too few texts: %d", texts)
	}
}
