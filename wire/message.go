package wire

import "drawbridge/api"

// Each body is read by the one method, and written by the other.

func (r *reader) clientHello() api.Hello {
	h := r.helloStart()
	h.Suites = list(r, filled(2), (*reader).number)
	list(r, exactly(1, 1), (*reader).compression)
	h.Exts = r.exts()
	if !ticketsLast(h.Exts) {
		r.refuse(api.AlertIllegal)
	}
	return h
}

func (w *writer) clientHello(h api.Hello) {
	w.helloStart(h)
	putList(w, filled(2), h.Suites, (*writer).number)
	putList(w, exactly(1, 1), []byte{noCompression}, (*writer).octet)
	w.unless(ticketsLast(h.Exts))
	w.exts(h.Exts)
}

func (r *reader) serverHello() api.Hello {
	h := r.helloStart()
	h.Suites = []uint16{r.number()}
	r.compression()
	h.Exts = r.exts()
	return h
}

func (w *writer) serverHello(h api.Hello) {
	w.helloStart(h)
	w.unless(len(h.Suites) == 1)
	for _, s := range h.Suites {
		w.number(s)
	}
	w.octet(noCompression)
	w.exts(h.Exts)
}

// helloStart is what both hellos begin with.
func (r *reader) helloStart() api.Hello {
	h := api.Hello{Legacy: r.number()}
	copy(h.Random[:], r.take(len(h.Random)))
	h.Session = list(r, sessionShape(), (*reader).octet)
	return h
}

func (w *writer) helloStart(h api.Hello) {
	w.number(h.Legacy)
	w.b = append(w.b, h.Random[:]...)
	putList(w, sessionShape(), h.Session, (*writer).octet)
}

// compression is a byte that tells nothing any more.
func (r *reader) compression() struct{} {
	r.only(noCompression)
	return struct{}{}
}

func (r *reader) exts() []api.Ext {
	l := list(r, free(2), (*reader).ext)
	if twice(l) {
		r.refuse(api.AlertIllegal)
	}
	return l
}

func (w *writer) exts(l []api.Ext) {
	w.unless(!twice(l))
	putList(w, free(2), l, (*writer).ext)
}

func (r *reader) ext() api.Ext {
	return api.Ext{Type: r.number(), Data: list(r, free(2), (*reader).octet)}
}

func (w *writer) ext(x api.Ext) {
	w.number(x.Type)
	putList(w, free(2), x.Data, (*writer).octet)
}

func (r *reader) certMsg() api.CertMsg {
	return api.CertMsg{
		Context: list(r, free(1), (*reader).octet),
		Entries: list(r, free(3), (*reader).certEntry),
	}
}

func (w *writer) certMsg(m api.CertMsg) {
	putList(w, free(1), m.Context, (*writer).octet)
	putList(w, free(3), m.Entries, (*writer).certEntry)
}

func (r *reader) certEntry() api.CertEntry {
	return api.CertEntry{Data: list(r, filled(3), (*reader).octet), Exts: r.exts()}
}

func (w *writer) certEntry(e api.CertEntry) {
	putList(w, filled(3), e.Data, (*writer).octet)
	w.exts(e.Exts)
}

func (r *reader) request() api.Request {
	return api.Request{Context: list(r, free(1), (*reader).octet), Exts: r.exts()}
}

func (w *writer) request(m api.Request) {
	putList(w, free(1), m.Context, (*writer).octet)
	w.exts(m.Exts)
}

func (r *reader) verified() api.Verified {
	return api.Verified{Alg: r.number(), Sig: list(r, free(2), (*reader).octet)}
}

func (w *writer) verified(m api.Verified) {
	w.number(m.Alg)
	putList(w, free(2), m.Sig, (*writer).octet)
}

func (r *reader) ticketMsg() api.TicketMsg {
	return api.TicketMsg{
		Life:   r.long(),
		Add:    r.long(),
		Nonce:  list(r, free(1), (*reader).octet),
		Ticket: list(r, filled(2), (*reader).octet),
		Exts:   r.exts(),
	}
}

func (w *writer) ticketMsg(m api.TicketMsg) {
	w.long(m.Life)
	w.long(m.Add)
	putList(w, free(1), m.Nonce, (*writer).octet)
	putList(w, filled(2), m.Ticket, (*writer).octet)
	w.exts(m.Exts)
}
