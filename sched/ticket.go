package sched

import (
	"slices"

	"drawbridge/api"
	"drawbridge/suite"
)

// A ticket begins with its key's name and a nonce; what is behind them is locked up by one suite, whatever the session's is.
const (
	nameLen  = 4
	nonceLen = 12
	headLen  = nameLen + nonceLen
	lockedBy = api.SuiteChaCha
)

// SealTicket writes a ticket; OpenTicket reads one.
func SealTicket(k api.TicketKey, nonce [12]byte, s api.Session) ([]byte, api.Errno) {
	if !mayBe(s) {
		return nil, api.ErrSchedLabel
	}
	// Each key of a ticket is one of the suite's, and Seal refuses nothing else.
	locked, _ := suite.Seal(lockedBy, k.Key[:], nonce, k.Name[:], textOf(s))
	return slices.Concat(k.Name[:], nonce[:], locked), api.OK
}

func OpenTicket(keys []api.TicketKey, b []byte) (api.Session, api.Errno) {
	if len(b) < headLen {
		return api.Session{}, api.ErrTicketOther
	}
	name, nonce, locked := [nameLen]byte(b), [nonceLen]byte(b[nameLen:]), b[headLen:]
	for _, k := range keys {
		if !called(k, name) {
			continue
		}
		text, e := suite.Open(lockedBy, k.Key[:], nonce, name[:], locked)
		if e != api.OK {
			continue
		}
		// A lock may fit by chance or by design: only a text that SealTicket writes makes it this key's ticket.
		if s, is := sessionOf(text); is {
			return s, api.OK
		}
	}
	return api.Session{}, api.ErrTicketOther
}

// called: is a key the one that has the name, whatever it keeps secret?
func called(k api.TicketKey, name [nameLen]byte) bool {
	return k == api.TicketKey{Name: name, Key: k.Key}
}
