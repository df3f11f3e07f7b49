package cert

import (
	"math/bits"

	"drawbridge/api"
	"drawbridge/der"
)

// The extensions that are known.
const (
	oidIssues   = "2.5.29.19"
	oidUsage    = "2.5.29.15"
	oidPurposes = "2.5.29.37"
	oidNames    = "2.5.29.17"
)

// What a certificate may be for.
const (
	oidServer = "1.3.6.1.5.5.7.3.1"
	oidClient = "1.3.6.1.5.5.7.3.2"
	oidStaple = "1.3.6.1.5.5.7.3.9"
)

// A usage's bits, in its first byte.
const (
	bitSign = 0x80
	bitCert = 0x04
)

// Bounds of hosts' names.
const (
	maxNames   = 32
	maxNameLen = 253
	firstByte  = 33
	lastByte   = 126
)

// known are the extensions that are, by their names, and how each one's body is read.
func known() map[string]func(*api.Cert, []byte) {
	return map[string]func(*api.Cert, []byte){
		oidIssues:   readIssues,
		oidUsage:    readUsage,
		oidPurposes: readPurposes,
		oidNames:    readNames,
	}
}

// extension is one as it stands.
type extension struct {
	name   string
	marked bool // who does not know it must refuse
	body   []byte
}

// extensions are read into a certificate.
func extensions(c *api.Cert, b []byte) {
	readers, seen := known(), map[string]int{}
	for _, item := range badForm.alike(badForm.only(b, tagList), tagList) {
		x := extensionOf(item.Body)
		seen[x.name]++
		badExt.unless(seen[x.name] == 1)
		read, is := readers[x.name]
		badExt.unless(is || !x.marked)
		if is {
			read(c, x.body)
		}
	}
}

// extensionOf is the one whose items a body has.
func extensionOf(b []byte) extension {
	all := badForm.items(b)
	if len(all) == 2 {
		badForm.tagged(all, []byte{tagOID, tagBytes})
		return extension{name: badForm.oid(all[0].Body), body: all[1].Body}
	}
	badForm.tagged(all, []byte{tagOID, tagTruth, tagBytes})
	name := badForm.oid(all[0].Body)
	badForm.marked(all[1].Body)
	return extension{name: name, marked: true, body: all[2].Body}
}

// readIssues: may it issue, and how many issuers may stand between?
func readIssues(c *api.Cert, b []byte) {
	all := badExt.items(badExt.only(b, tagList))
	tags := []byte{tagTruth, tagNum}
	badExt.tagged(all, tags[:min(len(all), len(tags))])
	if len(all) > 0 {
		badExt.marked(all[0].Body)
		c.CA = true
	}
	if len(all) > 1 {
		n, e := der.Small(all[1].Body)
		badExt.unless(e == api.OK)
		c.Path = n
	}
}

// readUsage: what may its key do?
func readUsage(c *api.Cert, b []byte) {
	flags, unused, e := der.Bits(badExt.only(b, tagBits))
	badExt.unless(e == api.OK && (len(flags) == 1 || len(flags) == 2))
	// There is one way alone to say it: the last bit that counts is set.
	badExt.unless(bits.TrailingZeros8(flags[len(flags)-1]) == unused)
	c.Usage = 0
	if flags[0]&bitSign != 0 {
		c.Usage |= api.UseSign
	}
	if flags[0]&bitCert != 0 {
		c.Usage |= api.UseCert
	}
}

// readPurposes: what is it for?
func readPurposes(c *api.Cert, b []byte) {
	c.Server, c.Client, c.Staple = false, false, false
	for _, item := range badExt.alike(badExt.only(b, tagList), tagOID) {
		switch badExt.oid(item.Body) {
		case oidServer:
			c.Server = true
		case oidClient:
			c.Client = true
		case oidStaple:
			c.Staple = true
		}
	}
}

// readNames: whose is it? Names of other things than hosts are passed over.
func readNames(c *api.Cert, b []byte) {
	all := badExt.items(badExt.only(b, tagList))
	badExt.unless(len(all) > 0)
	for _, item := range all {
		if item.Tag != tagHost {
			continue
		}
		badExt.unless(isName(item.Body) && len(c.Names) < maxNames)
		c.Names = append(c.Names, string(item.Body))
	}
}

// isName: may bytes be a host's name?
func isName(b []byte) bool {
	for _, x := range b {
		if x < firstByte || x > lastByte {
			return false
		}
	}
	return len(b) >= 1 && len(b) <= maxNameLen
}
