package cert_test

import (
	"bytes"
	"crypto/ecdh"
	"slices"

	"drawbridge/api"
	"drawbridge/der"
)

// rightParse is Parse as the document tells it, step by step, each step with the first error that it meets.
func rightParse(b []byte) (api.Cert, api.Errno) {
	whole, e := der.Next(b, 0)
	if e != api.OK || whole.Tag != 0x30 || whole.Len != len(b) {
		return api.Cert{}, api.ErrCertForm
	}
	three, _, e := der.Items(whole.Body)
	if e != api.OK || tagsOf(three) != "\x30\x30\x03" {
		return api.Cert{}, api.ErrCertForm
	}
	c, e := rightTBS(three[0].Body)
	if e != api.OK {
		return api.Cert{}, e
	}
	kind, e := rightKind(three[1], nameEd(), nameCurveSig())
	if e != api.OK || kind != c.SigKind {
		return api.Cert{}, api.ErrCertAlg
	}
	sig := three[2].Body
	if len(sig) == 0 || sig[0] != 0 || kind == api.KeyEd && len(sig) != 65 {
		return api.Cert{}, api.ErrCertForm
	}
	c.Raw, c.TBS, c.Sig = b, put(0x30, three[0].Body), sig[1:]
	return c, api.OK
}

func tagsOf(items []api.Item) string {
	var tags []byte
	for _, item := range items {
		tags = append(tags, item.Tag)
	}
	return string(tags)
}

func rightKind(item api.Item, ed, curve []byte) (api.KeyKind, api.Errno) {
	switch string(put(item.Tag, item.Body)) {
	case string(ed):
		return api.KeyEd, api.OK
	case string(curve):
		return api.KeyP256, api.OK
	}
	return 0, api.ErrCertAlg
}

func rightTBS(b []byte) (c api.Cert, e api.Errno) {
	all, _, e := der.Items(b)
	const seven = "\xa0\x02\x30\x30\x30\x30\x30"
	if tags := tagsOf(all); e != api.OK || tags != seven && tags != seven+"\xa3" {
		return c, api.ErrCertForm
	}
	if !bytes.Equal(all[0].Body, []byte{2, 1, 2}) {
		return c, api.ErrCertForm
	}
	if c.Serial, e = der.Num(all[1].Body); e != api.OK {
		return c, api.ErrCertForm
	}
	if c.SigKind, e = rightKind(all[2], nameEd(), nameCurveSig()); e != api.OK {
		return c, e
	}
	c.Issuer, c.Subject = put(0x30, all[3].Body), put(0x30, all[5].Body)
	if c.From, c.Until, e = rightTimes(all[4].Body); e != api.OK {
		return c, e
	}
	if c.Kind, c.Key, e = rightKey(all[6].Body); e != api.OK {
		return c, e
	}
	c.Path, c.Usage, c.Server, c.Client = -1, -1, true, true
	if len(all) == 8 {
		e = rightExts(&c, all[7].Body)
	}
	return c, e
}

func rightTimes(b []byte) (int64, int64, api.Errno) {
	all, _, e := der.Items(b)
	if e != api.OK || !slices.Contains([]string{"\x17\x17", "\x17\x18", "\x18\x17", "\x18\x18"}, tagsOf(all)) {
		return 0, 0, api.ErrCertForm
	}
	var t [2]int64
	for i, item := range all {
		t[i], e = der.Time(item.Tag, item.Body)
		if e != api.OK || item.Tag == 0x18 && string(item.Body[:4]) < "2050" {
			return 0, 0, api.ErrCertTime
		}
	}
	if t[1] < t[0] {
		return 0, 0, api.ErrCertTime
	}
	return t[0], t[1], api.OK
}

func rightKey(b []byte) (api.KeyKind, []byte, api.Errno) {
	all, _, e := der.Items(b)
	if e != api.OK || tagsOf(all) != "\x30\x03" {
		return 0, nil, api.ErrCertForm
	}
	kind, e := rightKind(all[0], nameEd(), nameCurveKey())
	if e != api.OK {
		return 0, nil, e
	}
	if len(all[1].Body) == 0 || all[1].Body[0] != 0 {
		return 0, nil, api.ErrCertForm
	}
	k := all[1].Body[1:]
	if kind == api.KeyEd && len(k) != 32 {
		return 0, nil, api.ErrCertForm
	}
	// The library takes a point that is told by X and Y alone, and not Zero.
	if _, err := ecdh.P256().NewPublicKey(k); kind == api.KeyP256 && err != nil {
		return 0, nil, api.ErrCertForm
	}
	return kind, k, api.OK
}

func rightExts(c *api.Cert, b []byte) api.Errno {
	outer, _, e := der.Items(b)
	if e != api.OK || tagsOf(outer) != "\x30" {
		return api.ErrCertForm
	}
	all, _, e := der.Items(outer[0].Body)
	if tags := tagsOf(all); e != api.OK || tags == "" || len(bytes.Trim([]byte(tags), "\x30")) > 0 {
		return api.ErrCertForm
	}
	var names []string
	for _, x := range all {
		parts, _, e := der.Items(x.Body)
		tags := tagsOf(parts)
		if e != api.OK || tags != "\x06\x04" && tags != "\x06\x01\x04" {
			return api.ErrCertForm
		}
		name, e := der.OID(parts[0].Body)
		if e != api.OK {
			return api.ErrCertForm
		}
		if len(parts) == 3 && !bytes.Equal(parts[1].Body, []byte{255}) {
			return api.ErrCertForm
		}
		if slices.Contains(names, name) || !rightExt(c, name, len(parts) == 3, parts[len(parts)-1].Body) {
			return api.ErrCertExt
		}
		names = append(names, name)
	}
	return api.OK
}

func rightExt(c *api.Cert, name string, marked bool, body []byte) bool {
	one, e := der.Next(body, 0)
	alone := e == api.OK && one.Len == len(body)
	inner, _, e := der.Items(one.Body)
	list := alone && one.Tag == 0x30 && e == api.OK
	switch name {
	case "2.5.29.19":
		return list && rightIssues(c, inner)
	case "2.5.29.15":
		return alone && one.Tag == 0x03 && rightUsage(c, one.Body)
	case "2.5.29.37":
		return list && rightPurposes(c, inner)
	case "2.5.29.17":
		return list && rightNames(c, inner)
	}
	return !marked
}

func rightIssues(c *api.Cert, inner []api.Item) bool {
	tags := tagsOf(inner)
	if tags == "" {
		return true
	}
	if tags != "\x01" && tags != "\x01\x02" || !bytes.Equal(inner[0].Body, []byte{255}) {
		return false
	}
	c.CA = true
	if tags == "\x01" {
		return true
	}
	n, e := der.Small(inner[1].Body)
	c.Path = n
	return e == api.OK
}

func rightUsage(c *api.Cert, b []byte) bool {
	// Each bit by its place, as RFC 5280 counts them.
	var set []int
	if len(b) != 2 && len(b) != 3 || b[0] > 7 {
		return false
	}
	count := 8*(len(b)-1) - int(b[0])
	for i := range 8 * (len(b) - 1) {
		if b[1+i/8]>>(7-i%8)&1 == 1 {
			set = append(set, i)
		}
	}
	if len(set) == 0 || set[len(set)-1] != count-1 {
		return false
	}
	c.Usage = 0
	if slices.Contains(set, 0) {
		c.Usage += 1
	}
	if slices.Contains(set, 5) {
		c.Usage += 2
	}
	return true
}

func rightPurposes(c *api.Cert, inner []api.Item) bool {
	var names []string
	for _, item := range inner {
		name, e := der.OID(item.Body)
		if item.Tag != 0x06 || e != api.OK {
			return false
		}
		names = append(names, name)
	}
	c.Server = slices.Contains(names, "1.3.6.1.5.5.7.3.1")
	c.Client = slices.Contains(names, "1.3.6.1.5.5.7.3.2")
	c.Staple = slices.Contains(names, "1.3.6.1.5.5.7.3.9")
	return len(names) > 0
}

func rightNames(c *api.Cert, inner []api.Item) bool {
	for _, item := range inner {
		if item.Tag != 0x82 {
			continue
		}
		if len(item.Body) == 0 || len(item.Body) > 253 {
			return false
		}
		for _, x := range item.Body {
			if x <= ' ' || x >= 127 {
				return false
			}
		}
		c.Names = append(c.Names, string(item.Body))
	}
	return len(inner) > 0 && len(c.Names) <= 32
}
