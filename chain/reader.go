package chain

import (
	"bytes"

	"drawbridge/api"
	"drawbridge/der"
)

// reader reads a staple. As whatever is wrong has one number, it only marks that something was, and goes on with nothing.
type reader struct {
	wrong bool
}

func (r *reader) unless(holds bool) {
	if !holds {
		r.wrong = true
	}
}

// only is the body of the one item that bytes are.
func (r *reader) only(b []byte, tag byte) []byte {
	item, e := der.Next(b, 0)
	r.unless(e == api.OK && item.Tag == tag && item.Len == len(b))
	return item.Body
}

// these are the items of a body, which has one of each tag, in their order: as many as there are tags, whatever is wrong.
func (r *reader) these(b []byte, tags ...byte) []api.Item {
	all, _, e := der.Items(b)
	if e != api.OK || len(all) != len(tags) {
		r.wrong = true
		return make([]api.Item, len(tags))
	}
	for i, tag := range tags {
		r.unless(tag == anyTag || all[i].Tag == tag)
	}
	return all
}

// written are an item's bytes: there is one way alone to write it.
func written(item api.Item) []byte { return der.Put(item.Tag, item.Body) }

// is: an item that can't be another one.
func (r *reader) is(item api.Item, b []byte) { r.unless(bytes.Equal(written(item), b)) }

func (r *reader) staple(b []byte) api.Staple {
	whole := r.these(r.only(b, tagList), tagState, tagAnswer)
	r.is(whole[0], done())
	answer := r.these(r.only(whole[1].Body, tagList), tagOID, tagBytes)
	r.is(answer[0], der.PutOID(oidAnswer))
	basic := r.these(r.only(answer[1].Body, tagList), tagList, tagList, tagBits)
	s := r.signedPart(basic[0].Body)
	s.TBS = written(basic[0])
	s.SigKind = r.signatureKind(basic[1])
	s.Sig = r.whole(basic[2].Body)
	return s
}

// signedPart is what the TBS's body tells.
func (r *reader) signedPart(b []byte) api.Staple {
	parts := r.these(b, tagResponder, tagTime, tagList)
	s := r.single(r.only(parts[2].Body, tagList))
	responder := r.these(parts[0].Body, tagList)
	s.Responder = written(responder[0])
	s.Made = r.time(parts[1])
	return s
}

// single is what is said of one certificate.
func (r *reader) single(b []byte) api.Staple {
	parts := r.these(b, tagList, anyTag, tagTime, tagUntil)
	about := r.these(parts[0].Body, tagList, tagBytes, tagBytes, tagNum)
	r.is(about[0], hashName())
	until := r.these(parts[3].Body, tagTime)
	return api.Staple{
		NameHash: r.hash(about[1]),
		KeyHash:  r.hash(about[2]),
		Serial:   r.num(about[3]),
		Good:     r.good(parts[1]),
		From:     r.time(parts[2]),
		Until:    r.time(until[0]),
	}
}

// good: of a status that is not good it is not asked why.
func (r *reader) good(status api.Item) bool {
	switch status.Tag {
	case tagGood, tagUnknown:
		r.unless(len(status.Body) == 0)
	case tagRevoked:
	default:
		r.wrong = true
	}
	return status.Tag == tagGood
}

func (r *reader) hash(item api.Item) []byte {
	r.unless(len(item.Body) == hashLen)
	return item.Body
}

func (r *reader) num(item api.Item) []byte {
	n, e := der.Num(item.Body)
	r.unless(e == api.OK)
	return n
}

func (r *reader) time(item api.Item) int64 {
	t, e := der.Time(item.Tag, item.Body)
	r.unless(e == api.OK)
	return t
}

// whole are bits that are whole bytes.
func (r *reader) whole(b []byte) []byte {
	all, unused, e := der.Bits(b)
	r.unless(e == api.OK && unused == 0)
	return all
}

// signatureKind is the kind whose name an item is.
func (r *reader) signatureKind(item api.Item) api.KeyKind {
	for _, kind := range [...]api.KeyKind{api.KeyEd, api.KeyP256} {
		if bytes.Equal(written(item), signatureName(kind)) {
			return kind
		}
	}
	r.wrong = true
	return 0
}
