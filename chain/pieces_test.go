package chain_test

import (
	"bytes"
	"encoding/asn1"
	"math/big"
	"time"

	"drawbridge/api"
)

// pieces are the items of a staple, each of which may be another one.
type pieces struct {
	state                               []byte
	answer                              []byte // the name of the answer
	responder, made                     []byte
	hash, nameHash, keyHash, serial     []byte
	status, from, until                 []byte
	kind, sig                           []byte
	inWhole, inAnswer, inOctets, inB    []byte // behind what stands there
	inResponder, inTBS, inAll, inSingle []byte
	inAbout, inUntil, inExplicit        []byte
	behind                              []byte // behind the whole
}

func (p pieces) tbs() []byte {
	about := put(0x30, p.hash, p.nameHash, p.keyHash, p.serial, p.inAbout)
	single := put(0x30, about, p.status, p.from, put(0xa0, p.until, p.inUntil), p.inSingle)
	return put(0x30, put(0xa1, p.responder, p.inResponder), p.made, put(0x30, single, p.inAll), p.inTBS)
}

func (p pieces) bytes() []byte {
	b := put(0x30, p.tbs(), p.kind, p.sig, p.inB)
	answer := put(0x30, p.answer, put(0x04, b, p.inOctets), p.inAnswer)
	return append(put(0x30, p.state, put(0xa0, answer, p.inExplicit), p.inWhole), p.behind...)
}

// plain are the pieces of a staple that is good.
func plain() pieces {
	return pieces{
		state:     []byte{0x0a, 1, 0},
		answer:    oid("1.3.6.1.5.5.7.48.1.1"),
		responder: put(0x30, put(0x31, text("somebody"))),
		made:      put(0x18, text("19700101000139Z")),
		hash:      put(0x30, oid("2.16.840.1.101.3.4.2.1")),
		nameHash:  put(0x04, bytes.Repeat([]byte{1}, 32)),
		keyHash:   put(0x04, bytes.Repeat([]byte{2}, 32)),
		serial:    put(0x02, []byte{0, 200, 1}),
		status:    []byte{0x80, 0},
		from:      put(0x18, text("19700101000140Z")),
		until:     put(0x18, text("20500101000000Z")),
		kind:      nameEd(),
		sig:       put(0x03, []byte{0}, bytes.Repeat([]byte{3}, 64)),
	}
}

// plainStaple is what they tell.
func plainStaple() api.Staple {
	p := plain()
	return api.Staple{
		TBS: p.tbs(), Responder: p.responder, Made: 99, NameHash: bytes.Repeat([]byte{1}, 32), KeyHash: bytes.Repeat([]byte{2}, 32),
		Serial: []byte{200, 1}, Good: true, From: 100, Until: 2524608000, SigKind: api.KeyEd, Sig: bytes.Repeat([]byte{3}, 64),
	}
}

// turned are the pieces of one that is not good, of the other kind.
func turned() pieces {
	p := plain()
	p.status, p.kind, p.sig = put(0xa1, put(0x18, text("whenever"))), nameCurveSig(), put(0x03, []byte{0, 5, 6, 7})
	p.serial, p.made = put(0x02, []byte{0}), put(0x18, text("00010101000000Z"))
	return p
}

func turnedStaple() api.Staple {
	p := turned()
	s := plainStaple()
	s.TBS, s.Good, s.SigKind, s.Sig, s.Serial, s.Made = p.tbs(), false, api.KeyP256, []byte{5, 6, 7}, []byte{0}, -62135596800
	return s
}

// must gives up, in what is told of the document's words.
func must(holds bool) {
	if !holds {
		panic("not a staple")
	}
}

// split are the items that a body is, as the library reads them, if they have these tags (1f: any).
func split(b []byte, tags string) []asn1.RawValue {
	var all []asn1.RawValue
	for len(b) > 0 {
		var item asn1.RawValue
		rest, err := asn1.Unmarshal(b, &item)
		must(err == nil && item.FullBytes[0]&0x1f != 0x1f && len(item.Bytes) < 65536)
		all, b = append(all, item), rest
	}
	must(len(all) == len(tags))
	for i, item := range all {
		must(tags[i] == 0x1f || item.FullBytes[0] == tags[i])
	}
	return all
}

func within(b []byte, tags ...string) []asn1.RawValue {
	for _, tag := range tags[:len(tags)-1] {
		b = split(b, tag)[0].Bytes
	}
	return split(b, tags[len(tags)-1])
}

func rightMoment(item asn1.RawValue) int64 {
	const form = "20060102150405Z"
	at, err := time.Parse(form, string(item.Bytes))
	must(err == nil && at.Year() >= 1 && at.Format(form) == string(item.Bytes))
	return at.Unix()
}

func rightSerial(item asn1.RawValue) []byte {
	n := new(big.Int)
	_, err := asn1.Unmarshal(item.FullBytes, &n)
	must(err == nil && n.Sign() >= 0 && len(item.Bytes) <= 33)
	if n.Sign() == 0 {
		return []byte{0}
	}
	return n.Bytes()
}

func rightKind(item asn1.RawValue) api.KeyKind {
	if bytes.Equal(item.FullBytes, nameEd()) {
		return api.KeyEd
	}
	must(bytes.Equal(item.FullBytes, nameCurveSig()))
	return api.KeyP256
}

// rightStaple is the staple whose bytes they are, as the document tells it; false, if there is none.
func rightStaple(b []byte) (s api.Staple, is bool) {
	defer func() {
		if recover() != nil {
			s, is = api.Staple{}, false
		}
	}()
	whole := within(b, "\x30", "\x0a\xa0")
	must(bytes.Equal(whole[0].Bytes, []byte{0}))
	answer := within(whole[1].Bytes, "\x30", "\x06\x04")
	must(bytes.Equal(answer[0].FullBytes, oid("1.3.6.1.5.5.7.48.1.1")))
	three := within(answer[1].Bytes, "\x30", "\x30\x30\x03")
	tbs := split(three[0].Bytes, "\xa1\x18\x30")
	single := within(tbs[2].Bytes, "\x30", "\x30\x1f\x18\xa0")
	about := split(single[0].Bytes, "\x30\x04\x04\x02")
	must(bytes.Equal(about[0].FullBytes, put(0x30, oid("2.16.840.1.101.3.4.2.1"))))
	must(len(about[1].Bytes) == 32 && len(about[2].Bytes) == 32)
	status := single[1].FullBytes
	must(string(status) == "\x80\x00" || string(status) == "\x82\x00" || status[0] == 0xa1)
	must(len(three[2].Bytes) >= 1 && three[2].Bytes[0] == 0)
	return api.Staple{
		TBS:       three[0].FullBytes,
		Responder: split(tbs[0].Bytes, "\x30")[0].FullBytes,
		Made:      rightMoment(tbs[1]),
		NameHash:  about[1].Bytes,
		KeyHash:   about[2].Bytes,
		Serial:    rightSerial(about[3]),
		Good:      status[0] == 0x80,
		From:      rightMoment(single[2]),
		Until:     rightMoment(split(single[3].Bytes, "\x18")[0]),
		SigKind:   rightKind(three[1]),
		Sig:       three[2].Bytes[1:],
	}, true
}
