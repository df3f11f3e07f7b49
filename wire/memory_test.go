package wire_test

import (
	"bytes"
	"reflect"
	"slices"
	"testing"

	"drawbridge/api"
	"drawbridge/wire"
)

// spare is a list with spare room, all of which is 0xee.
func spare(b []byte) []byte {
	room := append(make([]byte, 0, len(b)+40), b...)
	for i := len(b); i < cap(room); i++ {
		room[:cap(room)][i] = 0xee
	}
	return room
}

// kept: is a list's spare room as it was?
func kept(b []byte) bool {
	for _, c := range b[len(b):cap(b)] {
		if c != 0xee {
			return false
		}
	}
	return true
}

// lists are all lists of bytes and of numbers within a value, in order.
func lists(v reflect.Value) (all []reflect.Value) {
	switch v.Kind() {
	case reflect.Struct:
		for i := range v.NumField() {
			all = append(all, lists(v.Field(i))...)
		}
	case reflect.Slice:
		if k := v.Type().Elem().Kind(); k == reflect.Uint8 || k == reflect.Uint16 {
			return []reflect.Value{v}
		}
		for i := range v.Len() {
			all = append(all, lists(v.Index(i))...)
		}
	}
	return all
}

// scribble changes all of a list, its spare room too.
func scribble(v reflect.Value) {
	v = v.Slice3(0, v.Cap(), v.Cap())
	for i := range v.Len() {
		v.Index(i).SetUint(v.Index(i).Uint() ^ 0x55)
	}
}

// apart: does a value share no memory with the bytes that it was read from, nor one of its lists with another?
func apart[T any](t *testing.T, get func([]byte) (T, api.Alert), b []byte) {
	t.Helper()
	b = spare(b)
	v, a := get(b)
	twin, _ := get(bytes.Clone(b))
	if a != api.AlertNone || !kept(b) {
		t.Fatalf("%x: %d", b, a)
	}
	scribble(reflect.ValueOf(b))
	if !same(v, twin) {
		t.Errorf("%+v shares what was handed in", twin)
	}
	all, others := lists(reflect.ValueOf(v)), lists(reflect.ValueOf(twin))
	for i := range all {
		scribble(all[i])
		for j := range all {
			if i != j && !alike(all[j], others[j]) {
				t.Errorf("%+v: two lists share memory: %d, %d", twin, i, j)
			}
		}
		scribble(all[i])
	}
}

// manyLists are things that have many lists.
func manyLists() (api.Hello, api.CertMsg, []api.Share, []api.PSK) {
	exts := []api.Ext{{Type: 1, Data: []byte("one")}, {Type: 2, Data: []byte("two")}, {Type: 3}, {Type: 41, Data: []byte("last")}}
	hello := api.Hello{Session: []byte("session"), Suites: []uint16{1, 2, 3}, Exts: exts}
	certs := api.CertMsg{Context: []byte("context"), Entries: []api.CertEntry{{Data: []byte("a"), Exts: exts}, {Data: []byte("bc"), Exts: exts[:2]}, {Data: []byte("d")}}}
	shares := []api.Share{{Group: 29, Key: []byte("key")}, {Group: 23, Key: []byte("another")}}
	psks := []api.PSK{{Ticket: []byte("ticket"), Binder: bytes.Repeat([]byte{1}, 32)}, {Ticket: []byte("other"), Age: 7, Binder: bytes.Repeat([]byte{2}, 33)}}
	return hello, certs, shares, psks
}

func TestGivesNewMemory(t *testing.T) {
	hello, certs, shares, psks := manyLists()
	apart(t, wire.GetClientHello, wire.PutClientHello(hello))
	apart(t, wire.GetExts, wire.PutExts(hello.Exts))
	apart(t, wire.GetCert, wire.PutCert(certs))
	apart(t, wire.GetShares, wire.PutShares(shares))
	apart(t, wire.GetShare, wire.PutShare(shares[0]))
	apart(t, wire.GetRequest, wire.PutRequest(api.Request{Context: []byte("context"), Exts: hello.Exts}))
	apart(t, wire.GetVerify, wire.PutVerify(api.Verified{Sig: []byte("sig")}))
	apart(t, wire.GetTicket, wire.PutTicket(api.TicketMsg{Nonce: []byte("n"), Ticket: []byte("ticket"), Exts: hello.Exts}))
	apart(t, wire.GetList, wire.PutList(hello.Suites))
	apart(t, wire.GetVersions, wire.PutVersions(hello.Suites))
	apart(t, wire.GetModes, wire.PutModes([]byte("modes")))
	apart(t, wire.GetCookie, wire.PutCookie([]byte("cookie")))
	apart(t, wire.GetStatus, wire.PutStatus([]byte("staple")))
	apart(t, wire.GetName, wire.PutName("name"))
	apart(t, wire.GetALPN, wire.PutALPN([]string{"name", "other"}))
	apart(t, func(b []byte) ([]api.PSK, api.Alert) { l, _, a := wire.GetPSKs(b); return l, a }, wire.PutPSKs(psks))
	apart(t, func(b []byte) ([]byte, api.Alert) { _, body, _, a := wire.Unframe(b); return body, a }, wire.Frame(1, []byte("body")))
	apart(t, func(b []byte) ([]byte, api.Alert) { return wire.Frame(1, b), api.AlertNone }, []byte("body"))
	hello.Suites = hello.Suites[:1]
	apart(t, wire.GetServerHello, wire.PutServerHello(hello))
	find := func(b []byte) ([]byte, api.Alert) {
		got, _ := wire.Find([]api.Ext{{Type: 1}, {Type: 2, Data: b}}, 2)
		return got, api.AlertNone
	}
	apart(t, find, []byte("data"))
	retry := wire.Retry()
	retry[0]++
	if wire.Retry() == retry {
		t.Error("Retry's bytes can be changed")
	}
}

// untouched: does a call leave a list that is handed in as it was, its spare room too, and answer one that is not it?
func untouched(t *testing.T, what string, put func(b []byte) []byte) {
	t.Helper()
	b := spare([]byte("a list of some forty bytes, or a few more"))
	was := bytes.Clone(b)
	got := put(b)
	if len(got) == 0 || !bytes.Equal(b, was) || !kept(b) {
		t.Errorf("%s: %x", what, b)
	}
	twin := bytes.Clone(got)
	scribble(reflect.ValueOf(b))
	if !bytes.Equal(got, twin) {
		t.Errorf("%s: it shares what was handed in", what)
	}
	scribble(reflect.ValueOf(b))
	scribble(reflect.ValueOf(got))
	if !bytes.Equal(b, was) || !kept(b) {
		t.Errorf("%s: what was handed in shares it", what)
	}
}

func TestKeepsNothingThatIsPut(t *testing.T) {
	exts := func(b []byte) []api.Ext { return []api.Ext{{Type: 1, Data: b}, {Type: 2, Data: b}} }
	suites := []uint16{1}
	for what, put := range map[string]func(b []byte) []byte{
		"frame":   func(b []byte) []byte { return wire.Frame(1, b) },
		"session": func(b []byte) []byte { return wire.PutClientHello(api.Hello{Session: b[:32], Suites: suites}) },
		"hello's": func(b []byte) []byte { return wire.PutClientHello(api.Hello{Suites: suites, Exts: exts(b)}) },
		"server's": func(b []byte) []byte {
			return wire.PutServerHello(api.Hello{Session: b[:32], Suites: suites, Exts: exts(b)})
		},
		"exts":    func(b []byte) []byte { return wire.PutExts(exts(b)) },
		"context": func(b []byte) []byte { return wire.PutCert(api.CertMsg{Context: b}) },
		"certificate": func(b []byte) []byte {
			return wire.PutCert(api.CertMsg{Entries: []api.CertEntry{{Data: b, Exts: exts(b)}}})
		},
		"request":       func(b []byte) []byte { return wire.PutRequest(api.Request{Context: b, Exts: exts(b)}) },
		"signature":     func(b []byte) []byte { return wire.PutVerify(api.Verified{Sig: b}) },
		"ticket":        func(b []byte) []byte { return wire.PutTicket(api.TicketMsg{Nonce: b, Ticket: b, Exts: exts(b)}) },
		"modes":         wire.PutModes,
		"cookie":        wire.PutCookie,
		"staple":        wire.PutStatus,
		"share":         func(b []byte) []byte { return wire.PutShare(api.Share{Key: b}) },
		"shares":        func(b []byte) []byte { return wire.PutShares([]api.Share{{Key: b}, {Key: b}}) },
		"tickets":       func(b []byte) []byte { return wire.PutPSKs([]api.PSK{{Ticket: b, Binder: b}, {Ticket: b, Binder: b}}) },
		"name, as text": func(b []byte) []byte { return wire.PutName(string(b)) },
	} {
		untouched(t, what, put)
	}
	numbers := append(make([]uint16, 0, 9), 1, 2, 3)
	numbers[:4][3] = 0xeeee
	wire.PutList(numbers)
	wire.PutVersions(numbers)
	wire.PutClientHello(api.Hello{Suites: numbers})
	if !slices.Equal(numbers[:4], []uint16{1, 2, 3, 0xeeee}) {
		t.Error(numbers[:4])
	}
}

// Lists of parts, whose spare room has parts too, are not changed either.
func TestChangesNoListOfParts(t *testing.T) {
	hello, certs, shares, psks := manyLists()
	helloTwin, certsTwin, sharesTwin, psksTwin := manyLists()
	names := []string{"a", "b", "c"}
	wire.PutClientHello(hello)
	wire.PutExts(hello.Exts[:2])
	wire.PutCert(api.CertMsg{Entries: certs.Entries[:1]})
	wire.PutShares(shares[:1])
	wire.PutPSKs(psks[:1])
	wire.PutALPN(names[:1])
	wire.Find(hello.Exts[:1], 2)
	if !same(hello, helloTwin) || !same(certs, certsTwin) || !same(shares, sharesTwin) || !same(psks, psksTwin) || !slices.Equal(names, []string{"a", "b", "c"}) {
		t.Error("what was handed in is not as it was")
	}
}
