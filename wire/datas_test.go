package wire_test

import (
	"math/rand"
	"strings"

	"drawbridge/api"
	"drawbridge/wire"
)

// datas are the rows of the document's second table.
func datas() []one {
	return []one{
		names(), numberLists(), versions(), protocols(), modes(), shareLists(), shares(), numbers(), offers(), cookies(), staples(),
	}
}

func names() one {
	return kind[string]{
		called:  "a name",
		rule:    parts(2, 1, 1, row(fixed(1), octets(2, 1, anyMany))),
		right:   func(t tree) bool { return t.kids[0].kids[0].b[0] == 0 },
		value:   func(t tree) string { return string(t.kids[0].kids[1].b) },
		get:     wire.GetName,
		put:     wire.PutName,
		samples: []string{"a", "a.b", "\x00\xff", strings.Repeat("ab.", 100)},
		draw:    func(r *rand.Rand) string { return string(some(r, 0, 1, 2, 300, 65532, 65533, 65535, 65536)) },
		may:     func(s string) bool { return within(len(s), 1, 65532) },
	}
}

func numberLists() one {
	return kind[[]uint16]{
		called:  "a list",
		rule:    parts(2, 1, anyMany, fixed(2)),
		value:   numbersOf,
		get:     wire.GetList,
		put:     wire.PutList,
		samples: [][]uint16{{0}, {23, 29}, {0x807, 0x403, 0x807}, make([]uint16, 200)},
		draw:    func(r *rand.Rand) []uint16 { return someNumbers(r, 300) },
		may:     func(l []uint16) bool { return within(len(l), 1, 32767) },
	}
}

func versions() one {
	return kind[[]uint16]{
		called:  "versions",
		rule:    parts(1, 1, anyMany, fixed(2)),
		value:   numbersOf,
		get:     wire.GetVersions,
		put:     wire.PutVersions,
		samples: [][]uint16{{0}, {0x304}, {0x304, 0x303, 0x304}, make([]uint16, 127)},
		draw:    func(r *rand.Rand) []uint16 { return someNumbers(r, 200) },
		may:     func(l []uint16) bool { return within(len(l), 1, 127) },
	}
}

func protocols() one {
	return kind[[]string]{
		called: "protocols",
		rule:   parts(2, 1, anyMany, octets(1, 1, anyMany)),
		value: func(t tree) (l []string) {
			for _, kid := range t.kids {
				l = append(l, string(kid.b))
			}
			return l
		},
		get:     wire.GetALPN,
		put:     wire.PutALPN,
		samples: [][]string{{"x"}, {"h2", "x", "h2"}, {"\x00", strings.Repeat("\xff", 255)}},
		draw: func(r *rand.Rand) (l []string) {
			for range r.Intn(4) {
				l = append(l, string(some(r, 0, 1, 1, 2, 2, 255, 255, 256)))
			}
			return l
		},
		may: func(l []string) bool {
			for _, s := range l {
				if !within(len(s), 1, 255) {
					return false
				}
			}
			return len(l) > 0
		},
	}
}

func bytesOf(t tree) []byte { return t.b }

func modes() one {
	return kind[[]byte]{
		called:  "modes",
		rule:    octets(1, 1, anyMany),
		value:   bytesOf,
		get:     wire.GetModes,
		put:     wire.PutModes,
		samples: [][]byte{{1}, {0, 1}, make([]byte, 255)},
		draw:    func(r *rand.Rand) []byte { return some(r, 0, 1, 2, 255, 256) },
		may:     func(b []byte) bool { return within(len(b), 1, 255) },
	}
}

func shareOf(t tree) api.Share { return api.Share{Group: numberOf(t.kids[0]), Key: t.kids[1].b} }

func shareLists() one {
	return kind[[]api.Share]{
		called: "shares",
		rule:   parts(2, 0, anyMany, shareRule()),
		value: func(t tree) (l []api.Share) {
			for _, kid := range t.kids {
				l = append(l, shareOf(kid))
			}
			return l
		},
		get:     wire.GetShares,
		put:     wire.PutShares,
		samples: [][]api.Share{nil, {{Group: 29, Key: make([]byte, 32)}}, {{Group: 23, Key: make([]byte, 65)}, {Group: 23, Key: []byte{4}}, {Group: 0, Key: []byte{0, 0}}}},
		draw: func(r *rand.Rand) (l []api.Share) {
			for range r.Intn(4) {
				l = append(l, api.Share{Group: uint16(r.Uint32()), Key: some(r, 0, 1, 1, 32, 65, 21841, 21842)})
			}
			return l
		},
		may: func(l []api.Share) bool {
			n := 0
			for _, s := range l {
				if len(s.Key) == 0 {
					return false
				}
				n += 4 + len(s.Key)
			}
			return n <= 65535
		},
	}
}

func shares() one {
	return kind[api.Share]{
		called:  "a share",
		rule:    shareRule(),
		value:   shareOf,
		get:     wire.GetShare,
		put:     wire.PutShare,
		samples: []api.Share{{Key: []byte{0}}, {Group: 29, Key: make([]byte, 32)}, {Group: 0xffff, Key: make([]byte, 300)}},
		draw: func(r *rand.Rand) api.Share {
			return api.Share{Group: uint16(r.Uint32()), Key: some(r, 0, 1, 32, 65535, 65536)}
		},
		may: func(s api.Share) bool { return within(len(s.Key), 1, 65535) },
	}
}

func numbers() one {
	return kind[uint16]{
		called:  "a number",
		rule:    fixed(2),
		value:   numberOf,
		get:     wire.GetNumber,
		put:     wire.PutNumber,
		samples: []uint16{0, 1, 0x304, 0xffff},
		draw:    func(r *rand.Rand) uint16 { return uint16(r.Uint32()) },
		may:     func(uint16) bool { return true },
	}
}

// offered is what GetPSKs tells.
type offered struct {
	List []api.PSK
	N    int
}

func bindersLen(l []api.PSK) int {
	n := 2
	for _, p := range l {
		n += 1 + len(p.Binder)
	}
	return n
}

func psks(l ...api.PSK) offered { return offered{l, bindersLen(l)} }

func offers() one {
	ticketRule := row(octets(2, 1, anyMany), fixed(4))
	return kind[offered]{
		called: "tickets that are offered",
		rule:   row(parts(2, 1, anyMany, ticketRule), parts(2, 1, anyMany, octets(1, 32, anyMany))),
		fits:   func(t tree) bool { return len(t.kids[0].kids) == len(t.kids[1].kids) },
		value: func(t tree) offered {
			var l []api.PSK
			for i, kid := range t.kids[0].kids {
				l = append(l, api.PSK{Ticket: kid.kids[0].b, Age: uint32(whole(kid.kids[1].b)), Binder: t.kids[1].kids[i].b})
			}
			return psks(l...)
		},
		get: func(b []byte) (offered, api.Alert) {
			l, n, a := wire.GetPSKs(b)
			return offered{l, n}, a
		},
		put: func(o offered) []byte { return wire.PutPSKs(o.List) },
		samples: []offered{
			psks(api.PSK{Ticket: []byte("t"), Age: 7, Binder: make([]byte, 32)}),
			psks(api.PSK{Ticket: []byte{0, 0}, Age: 1<<32 - 1, Binder: make([]byte, 255)}, api.PSK{Ticket: make([]byte, 300), Age: 0x01020304, Binder: make([]byte, 48)}),
			psks(api.PSK{Ticket: []byte{1}, Binder: make([]byte, 32)}, api.PSK{Ticket: []byte{1}, Binder: make([]byte, 33)}, api.PSK{Ticket: []byte{2}, Binder: make([]byte, 32)}),
		},
		draw: func(r *rand.Rand) offered {
			var l []api.PSK
			for range r.Intn(4) {
				l = append(l, api.PSK{Ticket: some(r, 0, 1, 1, 2, 300, 21839, 21840), Age: r.Uint32(), Binder: some(r, 31, 32, 32, 33, 48, 255, 255, 256)})
			}
			return psks(l...)
		},
		may: func(o offered) bool {
			n := 0
			for _, p := range o.List {
				if len(p.Ticket) == 0 || !within(len(p.Binder), 32, 255) {
					return false
				}
				n += 6 + len(p.Ticket)
			}
			return len(o.List) > 0 && n <= 65535 && o.N <= 65537
		},
	}
}

func cookies() one {
	return kind[[]byte]{
		called:  "a cookie",
		rule:    octets(2, 1, anyMany),
		value:   bytesOf,
		get:     wire.GetCookie,
		put:     wire.PutCookie,
		samples: [][]byte{{0}, {1, 2}, make([]byte, 300)},
		draw:    func(r *rand.Rand) []byte { return some(r, 0, 1, 2, 300, 65535, 65536) },
		may:     func(b []byte) bool { return within(len(b), 1, 65535) },
	}
}

func staples() one {
	return kind[[]byte]{
		called:  "a staple",
		rule:    row(fixed(1), octets(3, 1, anyMany)),
		right:   func(t tree) bool { return t.kids[0].b[0] == 1 },
		value:   func(t tree) []byte { return t.kids[1].b },
		get:     wire.GetStatus,
		put:     wire.PutStatus,
		samples: [][]byte{{0}, []byte("st"), make([]byte, 300)},
		draw:    func(r *rand.Rand) []byte { return some(r, 0, 1, 2, 300, 65535, 65536, 70000) },
		may:     func(b []byte) bool { return len(b) > 0 },
	}
}
