package wire_test

import (
	"bytes"
	"math/rand"

	"drawbridge/api"
	"drawbridge/wire"
)

// The rows of the document's tables.

func helloStart() []rule { return []rule{fixed(2), fixed(32), octets(1, 0, 32)} }

func extsRule() rule { return parts(2, 0, anyMany, row(fixed(2), octets(2, 0, anyMany))) }

func shareRule() rule { return row(fixed(2), octets(2, 1, anyMany)) }

func numberOf(t tree) uint16 { return uint16(whole(t.b)) }

func numbersOf(t tree) (l []uint16) {
	for _, kid := range t.kids {
		l = append(l, numberOf(kid))
	}
	return l
}

func extsOf(t tree) (l []api.Ext) {
	for _, kid := range t.kids {
		l = append(l, api.Ext{Type: numberOf(kid.kids[0]), Data: kid.kids[1].b})
	}
	return l
}

// noTwins: does no type stand twice?
func noTwins(l []api.Ext) bool {
	seen := map[uint16]bool{}
	for _, x := range l {
		if seen[x.Type] {
			return false
		}
		seen[x.Type] = true
	}
	return true
}

func lastIs41(l []api.Ext) bool {
	for i, x := range l {
		if x.Type == 41 && i != len(l)-1 {
			return false
		}
	}
	return true
}

// What is drawn.

// some are bytes, of one of these lengths.
func some(r *rand.Rand, lengths ...int) []byte {
	b := make([]byte, lengths[r.Intn(len(lengths))])
	r.Read(b)
	return b
}

func someExts(r *rand.Rand) (l []api.Ext) {
	for range r.Intn(4) {
		l = append(l, api.Ext{Type: []uint16{0, 5, 41, 43, 0x0300, 0xffff}[r.Intn(6)], Data: some(r, 0, 1, 2, 300)})
	}
	return l
}

func someNumbers(r *rand.Rand, most int) (l []uint16) {
	for range r.Intn(most + 1) {
		l = append(l, uint16(r.Uint32()))
	}
	return l
}

func extsMay(l []api.Ext) bool {
	n := 0
	for _, x := range l {
		n += 4 + len(x.Data)
	}
	return n <= 65535 && noTwins(l)
}

func within(n, least, most int) bool { return n >= least && n <= most }

func clientHellos() one {
	random := [32]byte(bytes.Repeat([]byte{0xa5, 0x3c}, 16))
	psk := api.Ext{Type: api.ExtPSK, Data: []byte{1, 2}}
	return kind[api.Hello]{
		called: "a client's hello",
		rule:   row(append(helloStart(), parts(2, 1, anyMany, fixed(2)), octets(1, 1, 1), extsRule())...),
		right: func(t tree) bool {
			l := extsOf(t.kids[5])
			return t.kids[4].b[0] == 0 && noTwins(l) && lastIs41(l)
		},
		value: func(t tree) api.Hello {
			return api.Hello{Legacy: numberOf(t.kids[0]), Random: [32]byte(t.kids[1].b), Session: t.kids[2].b, Suites: numbersOf(t.kids[3]), Exts: extsOf(t.kids[5])}
		},
		get: wire.GetClientHello,
		put: wire.PutClientHello,
		samples: []api.Hello{
			{Suites: []uint16{1}},
			{Legacy: 0x303, Random: random, Session: []byte{5}, Suites: []uint16{0x1301, 0x1302}, Exts: []api.Ext{{Type: 3}, psk}},
			{Legacy: 0xffff, Random: random, Session: random[:], Suites: []uint16{0, 0, 0}, Exts: []api.Ext{psk}},
			{Legacy: 0x303, Suites: []uint16{0x1301}, Exts: []api.Ext{{Type: 0, Data: []byte{0, 0, 0}}, {Type: 0xffff, Data: random[:]}, {Type: 1}}},
		},
		draw: func(r *rand.Rand) api.Hello {
			return api.Hello{Legacy: uint16(r.Uint32()), Random: [32]byte(some(r, 32)), Session: some(r, 0, 1, 31, 32, 33), Suites: someNumbers(r, 3), Exts: someExts(r)}
		},
		may: func(h api.Hello) bool {
			return len(h.Session) <= 32 && within(len(h.Suites), 1, 32767) && extsMay(h.Exts) && lastIs41(h.Exts)
		},
	}
}

func serverHellos() one {
	random := [32]byte(bytes.Repeat([]byte{0x5a, 0xc3}, 16))
	psk := api.Ext{Type: api.ExtPSK, Data: []byte{1, 2}}
	return kind[api.Hello]{
		called: "a server's hello",
		rule:   row(append(helloStart(), fixed(2), fixed(1), extsRule())...),
		right:  func(t tree) bool { return t.kids[4].b[0] == 0 && noTwins(extsOf(t.kids[5])) },
		value: func(t tree) api.Hello {
			return api.Hello{Legacy: numberOf(t.kids[0]), Random: [32]byte(t.kids[1].b), Session: t.kids[2].b, Suites: []uint16{numberOf(t.kids[3])}, Exts: extsOf(t.kids[5])}
		},
		get: wire.GetServerHello,
		put: wire.PutServerHello,
		samples: []api.Hello{
			{Suites: []uint16{0}},
			{Legacy: 0x303, Random: random, Session: []byte{5}, Suites: []uint16{0x1301}, Exts: []api.Ext{psk, {Type: 3}}},
			{Legacy: 0xffff, Random: wire.Retry(), Session: random[:], Suites: []uint16{0x1302}, Exts: []api.Ext{{Type: 43, Data: []byte{3, 4}}, {Type: 51, Data: []byte{0, 29}}}},
		},
		draw: func(r *rand.Rand) api.Hello {
			return api.Hello{Legacy: uint16(r.Uint32()), Random: [32]byte(some(r, 32)), Session: some(r, 0, 1, 31, 32, 33), Suites: someNumbers(r, 2), Exts: someExts(r)}
		},
		may: func(h api.Hello) bool { return len(h.Session) <= 32 && len(h.Suites) == 1 && extsMay(h.Exts) },
	}
}

func extensions() one {
	return kind[[]api.Ext]{
		called: "extensions",
		rule:   extsRule(),
		right:  func(t tree) bool { return noTwins(extsOf(t)) },
		value:  extsOf,
		get:    wire.GetExts,
		put:    wire.PutExts,
		samples: [][]api.Ext{
			nil, {{Type: 0}}, {{Type: 41, Data: []byte{1}}, {Type: 0, Data: []byte{0, 0}}}, {{Type: 256}, {Type: 1}, {Type: 257, Data: make([]byte, 300)}},
		},
		draw: someExts,
		may:  extsMay,
	}
}

func certMsgs() one {
	return kind[api.CertMsg]{
		called: "certificates",
		rule:   row(octets(1, 0, anyMany), parts(3, 0, anyMany, row(octets(3, 1, anyMany), extsRule()))),
		right: func(t tree) bool {
			for _, entry := range t.kids[1].kids {
				if !noTwins(extsOf(entry.kids[1])) {
					return false
				}
			}
			return true
		},
		value: func(t tree) api.CertMsg {
			m := api.CertMsg{Context: t.kids[0].b}
			for _, entry := range t.kids[1].kids {
				m.Entries = append(m.Entries, api.CertEntry{Data: entry.kids[0].b, Exts: extsOf(entry.kids[1])})
			}
			return m
		},
		get: wire.GetCert,
		put: wire.PutCert,
		samples: []api.CertMsg{
			{},
			{Context: []byte{1, 2}},
			{Entries: []api.CertEntry{{Data: []byte("c")}}},
			{Context: []byte{0}, Entries: []api.CertEntry{
				{Data: []byte{0, 0, 1}, Exts: []api.Ext{{Type: 5, Data: []byte{1, 0, 0, 1, 7}}, {Type: 6}}},
				{Data: make([]byte, 300), Exts: []api.Ext{{Type: 5}}},
				{Data: []byte{1}},
			}},
		},
		draw: func(r *rand.Rand) api.CertMsg {
			m := api.CertMsg{Context: some(r, 0, 1, 255, 256)}
			for range r.Intn(4) {
				m.Entries = append(m.Entries, api.CertEntry{Data: some(r, 0, 1, 1, 2, 300, 70000), Exts: someExts(r)})
			}
			return m
		},
		may: func(m api.CertMsg) bool {
			for _, e := range m.Entries {
				if len(e.Data) == 0 || !extsMay(e.Exts) {
					return false
				}
			}
			return len(m.Context) <= 255
		},
	}
}

func requests() one {
	return kind[api.Request]{
		called:  "a request",
		rule:    row(octets(1, 0, anyMany), extsRule()),
		right:   func(t tree) bool { return noTwins(extsOf(t.kids[1])) },
		value:   func(t tree) api.Request { return api.Request{Context: t.kids[0].b, Exts: extsOf(t.kids[1])} },
		get:     wire.GetRequest,
		put:     wire.PutRequest,
		samples: []api.Request{{}, {Context: []byte{0, 0}}, {Context: make([]byte, 255), Exts: []api.Ext{{Type: 41, Data: []byte{9}}, {Type: 13}}}},
		draw: func(r *rand.Rand) api.Request {
			return api.Request{Context: some(r, 0, 1, 255, 256), Exts: someExts(r)}
		},
		may: func(m api.Request) bool { return len(m.Context) <= 255 && extsMay(m.Exts) },
	}
}

func verifies() one {
	return kind[api.Verified]{
		called:  "a signature",
		rule:    row(fixed(2), octets(2, 0, anyMany)),
		value:   func(t tree) api.Verified { return api.Verified{Alg: numberOf(t.kids[0]), Sig: t.kids[1].b} },
		get:     wire.GetVerify,
		put:     wire.PutVerify,
		samples: []api.Verified{{}, {Alg: 0x807, Sig: make([]byte, 64)}, {Alg: 0xffff, Sig: []byte{0}}},
		draw: func(r *rand.Rand) api.Verified {
			return api.Verified{Alg: uint16(r.Uint32()), Sig: some(r, 0, 1, 64, 65535, 65536)}
		},
		may: func(m api.Verified) bool { return len(m.Sig) <= 65535 },
	}
}

func ticketMsgs() one {
	return kind[api.TicketMsg]{
		called: "a ticket",
		rule:   row(fixed(4), fixed(4), octets(1, 0, anyMany), octets(2, 1, anyMany), extsRule()),
		right:  func(t tree) bool { return noTwins(extsOf(t.kids[4])) },
		value: func(t tree) api.TicketMsg {
			return api.TicketMsg{Life: uint32(whole(t.kids[0].b)), Add: uint32(whole(t.kids[1].b)), Nonce: t.kids[2].b, Ticket: t.kids[3].b, Exts: extsOf(t.kids[4])}
		},
		get: wire.GetTicket,
		put: wire.PutTicket,
		samples: []api.TicketMsg{
			{Ticket: []byte{0}},
			{Life: 0x01020304, Add: 0x81828384, Nonce: []byte{7}, Ticket: []byte("tt"), Exts: []api.Ext{{Type: 42, Data: make([]byte, 4)}, {Type: 41}}},
			{Life: 1<<32 - 1, Add: 1<<32 - 1, Nonce: make([]byte, 255), Ticket: make([]byte, 256)},
		},
		draw: func(r *rand.Rand) api.TicketMsg {
			return api.TicketMsg{Life: r.Uint32(), Add: r.Uint32(), Nonce: some(r, 0, 1, 255, 256), Ticket: some(r, 0, 1, 2, 300, 65535, 65536), Exts: someExts(r)}
		},
		may: func(m api.TicketMsg) bool {
			return len(m.Nonce) <= 255 && within(len(m.Ticket), 1, 65535) && extsMay(m.Exts)
		},
	}
}

// all are the bodies, and the extensions' data.
func all() []one {
	return append([]one{clientHellos(), serverHellos(), extensions(), certMsgs(), requests(), verifies(), ticketMsgs()}, datas()...)
}
