package wire

import "drawbridge/api"

// reader reads bytes from their beginning on. Whatever is wrong, it goes on to what may be wrong in another way, as one alert goes ahead of the other.
type reader struct {
	rest  []byte
	alert api.Alert
}

// get is what bytes are, by a method that reads it, or the alert.
func get[T any](b []byte, whole func(*reader) T) (T, api.Alert) {
	r := &reader{rest: b}
	v := whole(r)
	if len(r.rest) > 0 {
		r.refuse(api.AlertDecode)
	}
	if r.alert != api.AlertNone {
		var none T
		return none, r.alert
	}
	return v, api.AlertNone
}

// list is a list, by a method that reads one of its parts.
func list[T any](r *reader, s shape, part func(*reader) T) []T {
	body := r.take(int(r.digits(s.size)))
	behind := r.rest
	r.rest = body
	var all []T
	for len(r.rest) > 0 && !r.broken() {
		all = append(all, part(r))
	}
	r.rest = behind
	if !s.fits(len(all)) {
		r.refuse(api.AlertDecode)
	}
	return all
}

// refuse: AlertDecode is told, whatever else is wrong.
func (r *reader) refuse(a api.Alert) {
	if !r.broken() {
		r.alert = a
	}
}

// broken: nobody knows any more where what is behind begins.
func (r *reader) broken() bool { return r.alert == api.AlertDecode }

// take are the next n bytes; nothing, if there are not so many.
func (r *reader) take(n int) []byte {
	if n > len(r.rest) {
		r.refuse(api.AlertDecode)
		return nil
	}
	b := r.rest[:n]
	r.rest = r.rest[n:]
	return b
}

// digits is a number of n bytes.
func (r *reader) digits(n int) uint32 {
	v := uint32(0)
	for _, c := range r.take(n) {
		v = v<<8 | uint32(c)
	}
	return v
}

func (r *reader) octet() byte { return byte(r.digits(1)) }

func (r *reader) number() uint16 { return uint16(r.digits(2)) }

func (r *reader) long() uint32 { return r.digits(4) }

// only is a byte that may be no other one.
func (r *reader) only(c byte) {
	if r.octet() != c {
		r.refuse(api.AlertIllegal)
	}
}
