package chain

import (
	"bytes"
	"slices"

	"drawbridge/api"
	"drawbridge/cert"
)

// unsaid is a Path or a Usage that a certificate says nothing of.
const unsaid = -1

// reason is one to refuse a chain: what is wrong, with which certificate, if it holds.
type reason struct {
	number api.Errno
	place  int
	holds  func() bool
}

// refused is the first reason that holds. One is asked only if none ahead of it holds.
func refused(reasons []reason) (api.Errno, int) {
	for _, r := range reasons {
		if r.holds() {
			return r.number, r.place
		}
	}
	return api.OK, 0
}

// atOnce are the reasons to refuse a chain whoever is trusted.
func atOnce(chain []api.Cert, now int64, host string, as api.Role) []reason {
	all := []reason{{api.ErrChainEmpty, 0, func() bool { return len(chain) == 0 || len(chain) > api.MaxChain }}}
	// However many there are, no more are looked at.
	for i, c := range chain[:min(len(chain), api.MaxChain)] {
		all = append(all, reason{api.ErrChainTime, i, func() bool { return !inTime(c, now) }})
	}
	return append(all,
		reason{api.ErrChainUse, 0, func() bool { return !isFor(chain[0], as) }},
		reason{api.ErrChainName, 0, func() bool { return host != "" && !isOf(chain[0], host) }})
}

// goingOn are the reasons not to go on from a certificate that is not trusted to the next one.
func goingOn(chain []api.Cert, i int) []reason {
	return []reason{
		{api.ErrChainRoot, i, func() bool { return i == len(chain)-1 }},
		{api.ErrChainLink, i + 1, func() bool { return !isBy(chain[i], chain[i+1]) }},
		{api.ErrChainUse, i + 1, func() bool { return !mayIssue(chain[i+1], i) }},
		{api.ErrChainSig, i + 1, func() bool { return !isSignedBy(chain[i], chain[i+1]) }},
	}
}

// trusted: is a certificate at a depth a root, or by one?
func trusted(c api.Cert, roots []api.Cert, depth int, now int64) bool {
	return slices.ContainsFunc(roots, func(root api.Cert) bool {
		return bytes.Equal(root.Raw, c.Raw) ||
			isBy(c, root) && inTime(root, now) && mayIssue(root, depth) && isSignedBy(c, root)
	})
}

func inTime(c api.Cert, now int64) bool { return now >= c.From && now <= c.Until }

// isFor: of a role that is none there is no certificate.
func isFor(c api.Cert, as api.Role) bool {
	if !mayUse(c, api.UseSign) {
		return false
	}
	switch as {
	case api.AsServer:
		return c.Server
	case api.AsClient:
		return c.Client
	case api.AsStaple:
		return c.Staple
	}
	return false
}

func isOf(c api.Cert, host string) bool {
	return slices.ContainsFunc(c.Names, func(pattern string) bool { return Matches(pattern, host) })
}

func mayUse(c api.Cert, use int) bool { return c.Usage == unsaid || c.Usage&use != 0 }

func mayIssue(c api.Cert, depth int) bool {
	return c.CA && mayUse(c, api.UseCert) && (c.Path == unsaid || c.Path >= depth)
}

func isBy(c api.Cert, issuer api.Cert) bool { return bytes.Equal(c.Issuer, issuer.Subject) }

func isSignedBy(c api.Cert, issuer api.Cert) bool { return signed(c.SigKind, c.TBS, c.Sig, issuer) }

// signed: is a signature of a kind a text's, by an issuer?
func signed(kind api.KeyKind, text []byte, sig []byte, issuer api.Cert) bool {
	return kind == issuer.Kind && cert.Verify(issuer.Kind, issuer.Key, text, sig)
}
