package chain_test

import (
	"bytes"
	"math"
	"math/rand"
	"reflect"
	"slices"
	"strconv"
	"testing"

	"drawbridge/api"
	"drawbridge/cert"
	"drawbridge/chain"
)

// asked is a chain, and what is asked of it.
type asked struct {
	chain, roots []api.Cert
	now          int64
	host         string
	as           api.Role
}

// The words of the document, of certificates.

func rightIssues(c api.Cert, depth int) bool {
	return c.CA && (c.Usage == -1 || c.Usage&2 != 0) && (c.Path == -1 || !(c.Path < depth))
}

func rightFor(c api.Cert, as api.Role) bool {
	truths := map[api.Role]bool{api.AsServer: c.Server, api.AsClient: c.Client, api.AsStaple: c.Staple}
	return (c.Usage == -1 || c.Usage&1 != 0) && truths[as]
}

func rightTime(c api.Cert, now int64) bool { return c.From <= now && now <= c.Until }

func rightBy(c, issuer api.Cert) bool { return bytes.Equal(c.Issuer, issuer.Subject) }

func rightSig(c, issuer api.Cert) bool {
	return c.SigKind == issuer.Kind && verifyLibrary(issuer.Kind, issuer.Key, c.TBS, c.Sig)
}

// rightCheck is Check, as the document tells it.
func rightCheck(a asked) (api.Errno, int) {
	last := len(a.chain) - 1
	if last < 0 || last > 3 {
		return api.ErrChainEmpty, 0
	}
	for i, c := range a.chain {
		if !rightTime(c, a.now) {
			return api.ErrChainTime, i
		}
	}
	if !rightFor(a.chain[0], a.as) {
		return api.ErrChainUse, 0
	}
	is := func(name string) bool { return rightMatches(name, a.host) }
	if a.host != "" && !slices.ContainsFunc(a.chain[0].Names, is) {
		return api.ErrChainName, 0
	}
	for i, c := range a.chain {
		for _, root := range a.roots {
			if bytes.Equal(root.Raw, c.Raw) {
				return api.OK, i
			}
		}
		for _, root := range a.roots {
			if rightBy(c, root) && rightTime(root, a.now) && rightIssues(root, i) && rightSig(c, root) {
				return api.OK, i
			}
		}
		if i == last {
			return api.ErrChainRoot, i
		}
		next := a.chain[i+1]
		if !rightBy(c, next) {
			return api.ErrChainLink, i + 1
		}
		if !rightIssues(next, i) {
			return api.ErrChainUse, i + 1
		}
		if !rightSig(c, next) {
			return api.ErrChainSig, i + 1
		}
	}
	panic("the last one is trusted or not")
}

// check is what Check says, which must be what the document does.
func check(t *testing.T, a asked) (api.Errno, int) {
	t.Helper()
	e, at := chain.Check(a.chain, a.roots, a.now, a.host, a.as)
	if want, place := rightCheck(a); e != want || at != place {
		t.Fatalf("%d, %d, want %d, %d, of %+v", e, at, want, place, a)
	}
	return e, at
}

func wants(t *testing.T, what string, a asked, want api.Errno, place int) {
	t.Helper()
	if e, at := check(t, a); e != want || at != place {
		t.Errorf("%s: %d, %d, want %d, %d", what, e, at, want, place)
	}
}

// people are as many as a chain has, and one who is its root: each one's certificate is by the next.
func people(kind func(i int) api.KeyKind) [5]who {
	var all [5]who
	for i := range all {
		all[i] = who{"who " + strconv.Itoa(i), kind(i), secret(byte(i + 1))}
	}
	return all
}

func mixed(i int) api.KeyKind { return kinds()[i%2] }

func onlyEd(int) api.KeyKind { return api.KeyEd }

// whole is the longest chain, which leads to a root that does not stand in it.
func whole(t *testing.T, kind func(i int) api.KeyKind) asked {
	t.Helper()
	p := people(kind)
	a := asked{now: 150, host: "a.b", as: api.AsServer}
	for i := range 4 {
		a.chain = append(a.chain, made(t, p[i], p[i+1], nil))
	}
	a.chain[0] = made(t, p[0], p[1], func(c *api.Cert) { c.CA, c.Names = false, []string{"a.b", "*.c.d"} })
	a.roots = []api.Cert{made(t, p[4], p[4], nil)}
	return a
}

// alone are the asked ones with lists of their own.
func (a asked) alone() asked {
	twin := func(l []api.Cert) []api.Cert {
		m := make([]api.Cert, len(l), len(l)+3)
		for i, c := range l {
			m[i] = twinCert(c)
		}
		return m
	}
	a.chain, a.roots = twin(a.chain), twin(a.roots)
	return a
}

// The examples, and chains of all lengths, whose roots are whoever stands in them or behind them.
func TestChainsThatLeadToARoot(t *testing.T) {
	wants(t, "none", asked{now: 150, as: api.AsServer}, api.ErrChainEmpty, 0)
	a := whole(t, mixed)
	everybody := append(slices.Clone(a.chain), a.roots[0])
	wants(t, "a root alone", asked{chain: everybody[4:], roots: everybody[4:], now: 150, as: api.AsServer}, api.OK, 0)
	for n := 1; n <= 4; n++ {
		for root := range everybody {
			b := a
			b.chain, b.roots = everybody[:n], everybody[root:root+1]
			switch {
			case root == 0:
				wants(t, "it is a root", b, api.OK, 0)
			case root <= n:
				wants(t, "by a root", b, api.OK, root-1)
			default:
				wants(t, "by nobody", b, api.ErrChainRoot, n-1)
			}
		}
		b := a
		b.chain, b.roots = everybody[:n], nil
		wants(t, "no roots", b, api.ErrChainRoot, n-1)
		b.roots = everybody
		wants(t, "many roots", b, api.OK, 0)
	}
}

func TestTooManyAreNone(t *testing.T) {
	a := whole(t, onlyEd)
	for _, n := range []int{5, 6, 100} {
		b := a
		b.chain = nil
		for range n {
			b.chain = append(b.chain, a.chain[0])
		}
		b.roots = a.chain[:1]
		wants(t, "as a root", b, api.ErrChainEmpty, 0)
		b.chain[0].Until, b.as = 0, 7
		wants(t, "otherwise wrong too", b, api.ErrChainEmpty, 0)
	}
}

func TestTimes(t *testing.T) {
	a := whole(t, onlyEd)
	for _, now := range []int64{100, 101, 199, 200} {
		b := a
		b.now = now
		wants(t, "in time", b, api.OK, 3)
	}
	for _, now := range []int64{99, 201, 0, -1, math.MinInt64, math.MaxInt64} {
		b := a.alone()
		b.now = now
		wants(t, "all", b, api.ErrChainTime, 0)
		for i := range b.chain {
			b.chain[i].From, b.chain[i].Until = now, now
			if i < 3 {
				wants(t, "the first one that is not in time", b, api.ErrChainTime, i+1)
			}
		}
		wants(t, "the root is not in time", b, api.ErrChainRoot, 3)
		b.roots = append(b.roots, twinCert(b.roots[0]))
		b.roots[1].From, b.roots[1].Until = math.MinInt64, math.MaxInt64
		wants(t, "another root is", b, api.OK, 3)
		b.roots[1] = twinCert(b.chain[3])
		b.roots[1].From, b.roots[1].Until = 1, 0
		wants(t, "one that stands in the chain need not be", b, api.OK, 3)
	}
}

func TestHostsOfTheFirst(t *testing.T) {
	a := whole(t, onlyEd)
	a.roots = a.chain[:1]
	for _, name := range []string{"", "a.b", "A.B", "x.c.d", "X.c.D"} {
		b := a
		b.host = name
		wants(t, name, b, api.OK, 0)
	}
	for _, name := range []string{"b.b", "c.d", "y.x.c.d", "x.a.b", "a.b.", ".", " ", "*.c.d", "*", "\x00"} {
		b := a
		b.host = name
		wants(t, name, b, api.ErrChainName, 0)
	}
	b := a.alone()
	b.chain[0].Names, b.roots = nil, b.chain[:1]
	wants(t, "it has no names", b, api.ErrChainName, 0)
	b.host = ""
	wants(t, "it needs none", b, api.OK, 0)
	b = a.alone()
	b.chain[0].Names, b.chain[1].Names = nil, []string{"a.b"}
	wants(t, "another one's name", b, api.ErrChainName, 0)
}

// All that a certificate may be used for, for all roles.
func TestRoles(t *testing.T) {
	a := whole(t, onlyEd).alone()
	a.roots = a.chain[:1]
	met := map[api.Errno]int{}
	for truths := range 8 {
		for _, usage := range []int{-4, -2, -1, 0, 1, 2, 3, 4, 5, 6, 7} {
			for _, as := range []api.Role{math.MinInt, -1, 0, 1, 2, 3, 4, math.MaxInt} {
				c := &a.chain[0]
				c.Server, c.Client, c.Staple, c.Usage = truths&1 != 0, truths&2 != 0, truths&4 != 0, usage
				a.as = as
				e, at := check(t, a)
				if at != 0 || e != api.OK && e != api.ErrChainUse {
					t.Fatal(e, at)
				}
				met[e]++
			}
		}
	}
	if met[api.OK] != 3*4*5 {
		t.Error(met)
	}
}

// May one issue, at each depth, whether it stands in the chain or is a root?
func TestWhoMayIssue(t *testing.T) {
	a := whole(t, onlyEd).alone()
	for depth := range 4 {
		for _, usage := range []int{-1, 0, 1, 2, 3} {
			for _, path := range []int{math.MinInt, -2, -1, 0, 1, 2, 3, math.MaxInt} {
				for _, ca := range []bool{true, false} {
					b := a.alone()
					may := ca && (usage == -1 || usage >= 2) && (path == -1 || path >= depth)
					issuer := &b.roots[0]
					want, place := api.ErrChainRoot, 3
					if depth < 3 {
						issuer, want, place = &b.chain[depth+1], api.ErrChainUse, depth+1
					}
					if may {
						want, place = api.OK, 3
					}
					issuer.CA, issuer.Usage, issuer.Path = ca, usage, path
					if !may || usage == 3 {
						wants(t, "an issuer", b, want, place)
					}
					// As a root alone it is asked the same, and is not looked for in the chain.
					b.roots, b.chain = []api.Cert{*issuer}, b.chain[:depth+1]
					if want, place = api.ErrChainRoot, depth; may {
						want = api.OK
					}
					if !may || usage == 2 {
						wants(t, "a root", b, want, place)
					}
				}
			}
		}
	}
}

func TestLinksAndSignatures(t *testing.T) {
	a := whole(t, mixed)
	for i := range 3 {
		b := a.alone()
		b.chain[i].Issuer[0] ^= 1
		wants(t, "not by the next one", b, api.ErrChainLink, i+1)
		b = a.alone()
		b.chain[i+1].Subject = append(b.chain[i+1].Subject, 0)
		wants(t, "one byte more", b, api.ErrChainLink, i+1)
		b.chain[i+1].CA, b.chain[i].Sig = false, nil
		wants(t, "the link ahead of what else is wrong", b, api.ErrChainLink, i+1)
		b = a.alone()
		b.chain[i+1].CA, b.chain[i].Sig = false, nil
		wants(t, "the use ahead of the signature", b, api.ErrChainUse, i+1)
		for what, change := range map[string]func(c, next *api.Cert){
			"another text":      func(c, _ *api.Cert) { c.TBS[9] ^= 1 },
			"another signature": func(c, _ *api.Cert) { c.Sig[len(c.Sig)-1] ^= 1 },
			"no signature":      func(c, _ *api.Cert) { c.Sig = nil },
			"another kind":      func(c, _ *api.Cert) { c.SigKind = 3 - c.SigKind },
			"no kind":           func(c, _ *api.Cert) { c.SigKind = 0 },
			"another key":       func(_, next *api.Cert) { next.Key = publicOf(next.Kind, secret(77)) },
			"a kind that is none, both times": func(c, next *api.Cert) {
				c.SigKind, next.Kind = 3, 3
			},
			"another kind, both times": func(c, next *api.Cert) {
				c.SigKind, next.Kind = 3-c.SigKind, 3-next.Kind
			},
		} {
			b = a.alone()
			change(&b.chain[i], &b.chain[i+1])
			wants(t, what, b, api.ErrChainSig, i+1)
		}
	}
	b := a.alone()
	b.chain[3].SigKind = 3 - b.chain[3].SigKind
	wants(t, "another kind than the root's", b, api.ErrChainRoot, 3)
	b = a.alone()
	b.chain[3].TBS[9] ^= 1
	wants(t, "not signed by the root", b, api.ErrChainRoot, 3)
}

// Of roots that have the same name each one is asked.
func TestRootsOfOneName(t *testing.T) {
	a := whole(t, onlyEd)
	p := people(onlyEd)
	stranger := p[4]
	stranger.secret = secret(99)
	other := made(t, stranger, stranger, nil)
	late := made(t, p[4], p[4], func(c *api.Cert) { c.Until = 149 })
	short := made(t, p[4], p[4], func(c *api.Cert) { c.Path = 2 })
	for _, bad := range []api.Cert{other, late, short} {
		b := a
		b.roots = []api.Cert{bad}
		wants(t, "another one", b, api.ErrChainRoot, 3)
		b.roots = []api.Cert{bad, other, late, short, a.roots[0]}
		wants(t, "and the right one", b, api.OK, 3)
		b.roots = []api.Cert{a.roots[0], bad}
		wants(t, "the right one first", b, api.OK, 3)
	}
	// The name and the key don't make a root: its bytes do, or its signature.
	b := a
	twin := made(t, p[4], p[4], func(c *api.Cert) { c.CA = false })
	b.chain, b.roots, b.host = []api.Cert{twin}, a.roots, ""
	wants(t, "signed by the root's key", b, api.OK, 0)
	b.roots = []api.Cert{twin}
	b.chain = []api.Cert{a.roots[0]}
	wants(t, "by a root that may not issue", b, api.ErrChainRoot, 0)
}

// alterations change something of what is asked, each of which may be wrong or not.
func alterations() []func(r *rand.Rand, a *asked) {
	one := func(r *rand.Rand, l []api.Cert) *api.Cert {
		if len(l) == 0 {
			return &api.Cert{}
		}
		return &l[r.Intn(len(l))]
	}
	ofChain := func(change func(r *rand.Rand, c *api.Cert)) func(r *rand.Rand, a *asked) {
		return func(r *rand.Rand, a *asked) { change(r, one(r, a.chain)) }
	}
	ofAny := func(change func(r *rand.Rand, c *api.Cert)) func(r *rand.Rand, a *asked) {
		return func(r *rand.Rand, a *asked) {
			if r.Intn(3) == 0 {
				change(r, one(r, a.roots))
				return
			}
			change(r, one(r, a.chain))
		}
	}
	return []func(r *rand.Rand, a *asked){
		func(r *rand.Rand, a *asked) { a.now = []int64{99, 100, 200, 201}[r.Intn(4)] },
		func(r *rand.Rand, a *asked) { a.host = []string{"", "a.b", "x.c.d", "c.d", "?"}[r.Intn(5)] },
		func(r *rand.Rand, a *asked) { a.as = api.Role(r.Intn(5)) },
		func(r *rand.Rand, a *asked) { a.chain = a.chain[:r.Intn(len(a.chain)+1)] },
		func(r *rand.Rand, a *asked) { a.chain = append(a.chain, twinCert(*one(r, a.roots))) },
		func(r *rand.Rand, a *asked) { a.roots = append(a.roots, twinCert(*one(r, a.chain))) },
		func(r *rand.Rand, a *asked) { a.roots = slices.Insert(a.roots, 0, twinCert(*one(r, a.roots))) },
		func(r *rand.Rand, a *asked) { a.roots = a.roots[:r.Intn(len(a.roots)+1)] },
		func(r *rand.Rand, a *asked) { *one(r, a.chain) = twinCert(*one(r, a.chain)) },
		ofAny(func(r *rand.Rand, c *api.Cert) { c.From = 150 + int64(r.Intn(2)) }),
		ofAny(func(r *rand.Rand, c *api.Cert) { c.Until = 150 - int64(r.Intn(2)) }),
		ofAny(func(r *rand.Rand, c *api.Cert) { c.Path = r.Intn(5) - 1 }),
		ofAny(func(r *rand.Rand, c *api.Cert) { c.Usage = r.Intn(5) - 1 }),
		ofAny(func(r *rand.Rand, c *api.Cert) { c.CA = !c.CA }),
		ofAny(func(r *rand.Rand, c *api.Cert) { c.Kind = api.KeyKind(r.Intn(4)) }),
		ofAny(func(r *rand.Rand, c *api.Cert) { c.Key = publicOf(api.KeyEd, secret(byte(1+r.Intn(6)))) }),
		ofAny(func(r *rand.Rand, c *api.Cert) { c.Raw = append(c.Raw, 0) }),
		ofAny(func(r *rand.Rand, c *api.Cert) { c.Subject = cert.Name("who " + strconv.Itoa(r.Intn(5))) }),
		ofChain(func(r *rand.Rand, c *api.Cert) { c.Issuer = cert.Name("who " + strconv.Itoa(r.Intn(5))) }),
		ofChain(func(r *rand.Rand, c *api.Cert) { c.SigKind = api.KeyKind(r.Intn(4)) }),
		ofChain(func(r *rand.Rand, c *api.Cert) { c.Sig = c.Sig[:len(c.Sig)/2] }),
		ofChain(func(r *rand.Rand, c *api.Cert) { c.TBS = append(c.TBS, 0) }),
		ofChain(func(r *rand.Rand, c *api.Cert) { c.Server, c.Client, c.Staple = c.Client, c.Staple, c.Server }),
		ofChain(func(r *rand.Rand, c *api.Cert) { c.Names = nil }),
	}
}

// One change or some, anywhere: what is told is the first of what is wrong.
func TestChainsByChance(t *testing.T) {
	r := rand.New(rand.NewSource(4))
	all := alterations()
	type answer struct {
		e  api.Errno
		at int
	}
	met := map[answer]int{}
	for _, right := range []asked{whole(t, onlyEd), whole(t, mixed)} {
		for range 800 {
			a := right.alone()
			a.chain = a.chain[:1+r.Intn(4)]
			if n := len(a.chain); n < 4 {
				a.roots = append(a.roots, twinCert(right.chain[n]))
			}
			for range r.Intn(4) {
				all[r.Intn(len(all))](r, &a)
			}
			e, at := check(t, a)
			met[answer{e, at}]++
		}
	}
	for _, e := range []api.Errno{api.OK, api.ErrChainTime, api.ErrChainUse, api.ErrChainLink, api.ErrChainSig, api.ErrChainRoot, api.ErrChainName, api.ErrChainEmpty} {
		for at := range 4 {
			atOnce := e == api.ErrChainName || e == api.ErrChainEmpty
			if atOnce && at > 0 || e == api.ErrChainLink && at == 0 || e == api.ErrChainSig && at == 0 {
				continue
			}
			if met[answer{e, at}] < 3 {
				t.Error("hardly met:", e, at, met[answer{e, at}])
			}
		}
	}
}

// Of a chain that leads to a root each one is in time and by the next, and nothing that fits too changes that.
func TestWhatFitsChangesNothing(t *testing.T) {
	a := whole(t, mixed)
	everybody := append(slices.Clone(a.chain), a.roots[0])
	for root := 1; root <= 4; root++ {
		for n := root; n <= 4; n++ {
			b := a
			b.roots, b.chain = everybody[root:root+1], everybody[:n]
			wants(t, "it leads to a root", b, api.OK, root-1)
			for i := range root {
				if !rightTime(everybody[i], b.now) || !rightBy(everybody[i], everybody[i+1]) {
					t.Error("not by the next one", i)
				}
			}
		}
	}
	a.chain, a.roots = everybody[:2], everybody[2:3]
	for _, more := range everybody {
		b := a
		b.chain = append(slices.Clone(a.chain), more)
		wants(t, "one more behind it", b, api.OK, 1)
	}
	for _, name := range []string{"", "x.c.d", "A.b"} {
		b := a
		b.host = name
		wants(t, "another host", b, api.OK, 1)
	}
	for _, now := range []int64{100, 200} {
		b := a
		b.now = now
		wants(t, "another time", b, api.OK, 1)
	}
	a.as = api.AsClient
	wants(t, "another role", a, api.OK, 1)
}

// No more are looked at than may be, each against each root once: one more root costs one more signature, and no more.
func TestBounded(t *testing.T) {
	a := whole(t, func(int) api.KeyKind { return api.KeyP256 })
	a.chain = a.chain[:2]
	stranger := made(t, who{"who 2", api.KeyP256, secret(99)}, who{"who 2", api.KeyP256, secret(99)}, nil)
	cost := func(roots int) float64 {
		b := a
		b.roots = slices.Repeat([]api.Cert{stranger}, roots)
		return testing.AllocsPerRun(1, func() {
			if e, at := chain.Check(b.chain, b.roots, b.now, b.host, b.as); e != api.ErrChainRoot || at != 1 {
				t.Error(e, at)
			}
		})
	}
	one := testing.AllocsPerRun(1, func() { cert.Verify(stranger.Kind, stranger.Key, a.chain[1].TBS, a.chain[1].Sig) })
	if least, more := cost(2), cost(12); one < 1 || more-least < 9*one || more-least > 11*one {
		t.Error("ten roots more cost", more-least, "and not", 10*one)
	}
	many := slices.Repeat(a.chain, 1<<12)
	if n := testing.AllocsPerRun(1, func() { chain.Check(many, a.roots, a.now, a.host, a.as) }); n > 50 {
		t.Error("a long chain costs", n)
	}
}

// Whatever certificates have: a call ends, and says what the document does.
func TestOddCertificates(t *testing.T) {
	odd := []api.Cert{
		{}, {CA: true, Server: true, Usage: -1, Path: -1, From: math.MinInt64, Until: math.MaxInt64},
		{CA: true, Server: true, Usage: 3, Kind: 1, SigKind: 1, Until: 9, Raw: []byte{1}},
		{CA: true, Server: true, Usage: -1, Kind: 1, SigKind: 1, Until: 9, Raw: []byte{2}, Key: make([]byte, 32), Sig: make([]byte, 63)},
		{CA: true, Server: true, Usage: -1, Kind: 2, SigKind: 2, Until: 9, Raw: []byte{3}, Key: make([]byte, 65), Sig: []byte{0x30}},
		{CA: true, Server: true, Usage: -1, Kind: -1, SigKind: -1, Until: 9, Raw: []byte{4}, Names: []string{"", "*", "*.", "a.b"}},
	}
	for _, first := range odd {
		for _, second := range odd {
			for _, root := range odd {
				for _, host := range []string{"", "a.b", "*."} {
					for _, now := range []int64{math.MinInt64, 5, math.MaxInt64} {
						check(t, asked{[]api.Cert{first, second}, []api.Cert{root}, now, host, api.AsServer})
						check(t, asked{[]api.Cert{first, second}, nil, now, host, api.AsServer})
					}
				}
			}
		}
	}
}

// What is handed in is not changed, nor its spare room, and the same is answered again.
func TestCheckChangesNothing(t *testing.T) {
	a := whole(t, mixed).alone()
	before := a.alone()
	for range 2 {
		wants(t, "right", a, api.OK, 3)
	}
	if !reflect.DeepEqual(a, before) {
		t.Error("something is not as it was")
	}
	for i := range a.chain {
		if !unused(lists(&a.chain[i])) {
			t.Error("the spare room is not as it was")
		}
	}
	if spare := a.chain[4:cap(a.chain)]; !reflect.DeepEqual(spare, make([]api.Cert, 3)) {
		t.Error("the spare room is not as it was")
	}
}
