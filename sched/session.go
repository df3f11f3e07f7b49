package sched

import (
	"bytes"
	"strings"

	"drawbridge/api"
	"drawbridge/sha"
	"drawbridge/suite"
)

const (
	maxHost     = 253
	maxProtocol = 255
)

// mayBe: may a ticket have such a session?
func mayBe(s api.Session) bool {
	return suite.Known(s.Suite) && len(s.Secret) == sha.Size(suite.Hash(s.Suite)) &&
		len(s.Host) <= maxHost && len(s.Protocol) <= maxProtocol
}

// textOf is a session that may be, as bytes; sessionOf the one that has just these bytes, if there is one.
func textOf(s api.Session) []byte {
	var b strings.Builder
	number, part := digits(&b), counted(&b)
	number(2, uint64(s.Suite))
	part(string(s.Secret))
	part(s.Host)
	part(s.Protocol)
	number(8, s.Made)
	number(4, uint64(s.Life))
	number(4, uint64(s.Add))
	return []byte(b.String())
}

func sessionOf(text []byte) (api.Session, bool) {
	r := &reader{rest: text}
	s := api.Session{
		Suite:    api.Suite(r.digits(2)),
		Secret:   bytes.Clone(r.counted()),
		Host:     string(r.counted()),
		Protocol: string(r.counted()),
		Made:     r.digits(8),
		Life:     uint32(r.digits(4)),
		Add:      uint32(r.digits(4)),
	}
	if !r.done() || !mayBe(s) {
		return api.Session{}, false
	}
	return s, true
}
