package record

import (
	"bytes"

	"drawbridge/api"
)

// Reader reads records.
type Reader struct {
	by    lock
	held  []byte
	skip  int
	quiet bool
	dead  api.Alert
}

// NewReader is one without a key.
func NewReader() *Reader { return &Reader{} }

// Key gives it a key: what follows is locked up, and numbered from 0 on.
func (r *Reader) Key(s api.Suite, key []byte, iv [12]byte) api.Errno {
	by, e := newLock(s, key, iv)
	if e != api.OK {
		return e
	}
	r.by = by
	return api.OK
}

// Skip lets records pass that can't be opened, of so many bytes in all, till one is.
func (r *Reader) Skip(n int) { r.skip = max(0, n) }

// Quiet says whether records that only say that something changes are passed over.
func (r *Reader) Quiet(is bool) { r.quiet = is }

// Feed takes bytes, as many as it has room for: how many.
func (r *Reader) Feed(b []byte) int {
	if r.dead != api.AlertNone {
		return 0
	}
	n := min(len(b), room-len(r.held))
	r.held = append(r.held, b[:n]...)
	return n
}

// Held is how many bytes it holds.
func (r *Reader) Held() int { return len(r.held) }

// Next is the next record; false: it is not whole yet.
func (r *Reader) Next() (api.Content, []byte, bool, api.Alert) {
	if r.dead != api.AlertNone {
		return 0, nil, false, r.dead
	}
next:
	for {
		head, body, a := r.take()
		if a != api.AlertNone {
			return r.fail(a)
		}
		if head == nil {
			return 0, nil, false, api.AlertNone
		}
		t := api.Content(head[0])
		switch {
		case t == api.ContentChange:
			if r.quiet && isChange(body) {
				continue next
			}
			return r.fail(api.AlertUnexpected)
		case r.by.has():
			if t != api.ContentData {
				return r.fail(api.AlertUnexpected)
			}
			opened, e := r.by.open(head, body)
			if e == api.OK {
				return r.locked(opened)
			}
			if r.passes(len(body)) {
				continue next
			}
			return r.fail(api.AlertRecordMac)
		case t == api.ContentData:
			if r.passes(len(body)) {
				continue next
			}
			return r.fail(api.AlertUnexpected)
		}
		return r.plain(t, body)
	}
}

// take is the head and the body of the first record that is held, and holds it no more; no head, if it is not whole yet.
func (r *Reader) take() ([]byte, []byte, api.Alert) {
	if len(r.held) < headLen {
		return nil, nil, api.AlertNone
	}
	t, n := api.Content(r.held[0]), int(r.held[3])<<8|int(r.held[4])
	most := api.MaxPlain
	if t == api.ContentData {
		most = maxLocked
	}
	end := headLen + n
	switch {
	case t < api.ContentChange || t > api.ContentData:
		return nil, nil, api.AlertUnexpected
	case n > most:
		return nil, nil, api.AlertOverflow
	case len(r.held) < end:
		return nil, nil, api.AlertNone
	}
	head, body := r.held[:headLen:headLen], r.held[headLen:end:end]
	r.held = r.held[end:]
	if len(r.held) == 0 {
		r.held = nil // else the memory of what was taken would be kept for nothing
	}
	return head, body, api.AlertNone
}

// isChange: does a record only say that something changes?
func isChange(body []byte) bool { return len(body) == 1 && body[0] == 1 }

// passes: may a record of so many bytes be skipped? Then fewer may behind it.
func (r *Reader) passes(n int) bool {
	if n > r.skip {
		return false
	}
	r.skip -= n
	return true
}

// plain answers a record that is not locked up.
func (r *Reader) plain(t api.Content, body []byte) (api.Content, []byte, bool, api.Alert) {
	if len(body) == 0 {
		return r.fail(api.AlertUnexpected)
	}
	return t, bytes.Clone(body), true, api.AlertNone
}

// locked answers what a record had that was opened.
func (r *Reader) locked(opened []byte) (api.Content, []byte, bool, api.Alert) {
	r.skip = 0
	n := len(bytes.TrimRight(opened, "\x00")) - 1
	if n < 0 {
		return r.fail(api.AlertUnexpected)
	}
	if n > api.MaxPlain {
		return r.fail(api.AlertOverflow)
	}
	t := api.Content(opened[n])
	if !maySay(t, n) {
		return r.fail(api.AlertUnexpected)
	}
	// The noughts are not what was said: they are no spare room either.
	return t, opened[:n:n], true, api.AlertNone
}

// maySay: may a record that was locked up have so many bytes of a content?
func maySay(t api.Content, n int) bool {
	switch t {
	case api.ContentData:
		return true
	case api.ContentAlert, api.ContentHandshake:
		return n > 0
	}
	return false
}

// fail makes it dead with an alert: nothing of what it had is of use any more.
func (r *Reader) fail(a api.Alert) (api.Content, []byte, bool, api.Alert) {
	*r = Reader{dead: a}
	return 0, nil, false, a
}
