package wire

import "drawbridge/api"

// Each extension's data is read by the one method, and written by the other.

func (r *reader) name() string {
	hosts := list(r, exactly(1, 2), (*reader).host)
	if len(hosts) == 0 {
		return ""
	}
	return hosts[0]
}

func (w *writer) name(host string) {
	putList(w, exactly(1, 2), []string{host}, (*writer).host)
}

func (r *reader) host() string {
	r.only(hostName)
	return string(list(r, filled(2), (*reader).octet))
}

func (w *writer) host(name string) {
	w.octet(hostName)
	putList(w, filled(2), []byte(name), (*writer).octet)
}

func (r *reader) numbers() []uint16 { return list(r, filled(2), (*reader).number) }

func (w *writer) numbers(l []uint16) { putList(w, filled(2), l, (*writer).number) }

func (r *reader) versions() []uint16 { return list(r, filled(1), (*reader).number) }

func (w *writer) versions(l []uint16) { putList(w, filled(1), l, (*writer).number) }

func (r *reader) protocols() []string { return list(r, filled(2), (*reader).protocol) }

func (w *writer) protocols(l []string) { putList(w, filled(2), l, (*writer).protocol) }

func (r *reader) protocol() string { return string(list(r, filled(1), (*reader).octet)) }

func (w *writer) protocol(name string) { putList(w, filled(1), []byte(name), (*writer).octet) }

func (r *reader) modes() []byte { return list(r, filled(1), (*reader).octet) }

func (w *writer) modes(l []byte) { putList(w, filled(1), l, (*writer).octet) }

func (r *reader) shares() []api.Share { return list(r, free(2), (*reader).share) }

func (w *writer) shares(l []api.Share) { putList(w, free(2), l, (*writer).share) }

func (r *reader) share() api.Share {
	return api.Share{Group: r.number(), Key: list(r, filled(2), (*reader).octet)}
}

func (w *writer) share(s api.Share) {
	w.number(s.Group)
	putList(w, filled(2), s.Key, (*writer).octet)
}

// offer are tickets, and how many bytes the list of their binders has.
type offer struct {
	tickets []api.PSK
	binders int
}

func (r *reader) offer() offer {
	tickets := list(r, filled(2), (*reader).ticket)
	length := len(r.rest)
	binders := list(r, exactly(len(tickets), 2), (*reader).binder)
	for i := range min(len(tickets), len(binders)) {
		tickets[i].Binder = binders[i]
	}
	return offer{tickets, length}
}

func (w *writer) offer(l []api.PSK) {
	putList(w, filled(2), l, (*writer).ticket)
	putList(w, exactly(len(l), 2), l, (*writer).binder)
}

// ticket is a ticket without its binder: all binders stand behind all tickets.
func (r *reader) ticket() api.PSK {
	return api.PSK{Ticket: list(r, filled(2), (*reader).octet), Age: r.long()}
}

func (w *writer) ticket(p api.PSK) {
	putList(w, filled(2), p.Ticket, (*writer).octet)
	w.long(p.Age)
}

func (r *reader) binder() []byte { return list(r, binderShape(), (*reader).octet) }

func (w *writer) binder(p api.PSK) { putList(w, binderShape(), p.Binder, (*writer).octet) }

func (r *reader) cookie() []byte { return list(r, filled(2), (*reader).octet) }

func (w *writer) cookie(c []byte) { putList(w, filled(2), c, (*writer).octet) }

func (r *reader) staple() []byte {
	r.only(stapleOfOne)
	return list(r, filled(3), (*reader).octet)
}

func (w *writer) staple(b []byte) {
	w.octet(stapleOfOne)
	putList(w, filled(3), b, (*writer).octet)
}
