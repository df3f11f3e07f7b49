package cert

import (
	"drawbridge/api"
	"drawbridge/der"
)

// The tags of a certificate's items.
const (
	tagTruth     = 0x01
	tagNum       = 0x02
	tagBits      = 0x03
	tagBytes     = 0x04
	tagOID       = 0x06
	tagText      = 0x0c
	tagShortTime = 0x17
	tagLongTime  = 0x18
	tagList      = 0x30
	tagSet       = 0x31
	tagHost      = 0x82
	tagVersion   = 0xa0
	tagExts      = 0xa3
)

// wrong is the number with which a step gives up. The same steps read items everywhere, and what is wrong within an extension's body has a number of its own.
type wrong api.Errno

const (
	badForm = wrong(api.ErrCertForm)
	badAlg  = wrong(api.ErrCertAlg)
	badExt  = wrong(api.ErrCertExt)
	badTime = wrong(api.ErrCertTime)
)

// reason is why a step gave up. One that fell over bytes in another way has not read them either.
func reason(given any) api.Errno {
	if e, is := given.(api.Errno); is {
		return e
	}
	return api.ErrCertForm
}

// unless gives up, unless something holds.
func (w wrong) unless(holds bool) {
	if !holds {
		panic(api.Errno(w))
	}
}

// only is the body of the one item that bytes are. Whatever stands behind it is not read, however much it is.
func (w wrong) only(b []byte, tag byte) []byte {
	item, e := der.Next(b, 0)
	w.unless(e == api.OK && item.Tag == tag && item.Len == len(b))
	return item.Body
}

// items are those of a body.
func (w wrong) items(b []byte) []api.Item {
	all, _, e := der.Items(b)
	w.unless(e == api.OK)
	return all
}

// tagged: as many items as tags, and each has its own.
func (w wrong) tagged(all []api.Item, tags []byte) {
	w.unless(len(all) == len(tags))
	for i, tag := range tags {
		w.unless(all[i].Tag == tag)
	}
}

// these are the items of a body, which has one of each tag, in their order.
func (w wrong) these(b []byte, tags ...byte) []api.Item {
	all := w.items(b)
	w.tagged(all, tags)
	return all
}

// alike are the items of a body, one at least, which all have one tag.
func (w wrong) alike(b []byte, tag byte) []api.Item {
	all := w.items(b)
	w.unless(len(all) > 0)
	for _, item := range all {
		w.unless(item.Tag == tag)
	}
	return all
}

// num is a number, the highest byte first.
func (w wrong) num(b []byte) []byte {
	n, e := der.Num(b)
	w.unless(e == api.OK)
	return n
}

// oid is a name that is made of numbers.
func (w wrong) oid(b []byte) string {
	name, e := der.OID(b)
	w.unless(e == api.OK)
	return name
}

// marked is a truth that is true. One that is false has another way to be said: it does not stand.
func (w wrong) marked(b []byte) {
	truth, e := der.Bool(b)
	w.unless(e == api.OK && truth)
}

// whole are bits that are whole bytes.
func (w wrong) whole(b []byte) []byte {
	all, unused, e := der.Bits(b)
	w.unless(e == api.OK && unused == 0)
	return all
}
