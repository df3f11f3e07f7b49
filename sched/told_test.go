package sched_test

import (
	"testing"

	"drawbridge/api"
	"drawbridge/sched"
	"drawbridge/sha"
)

// What RFC 8448 tells of two handshakes.

const (
	toldClientHello = "010000c00303cb34ecb1e78163ba1c38c6dacb196a6dffa21a8d9912ec18a2ef6283024dece7000006130113031302010000910000000b0009000006736572766572ff01000100000a00140012001d0017001800190100010101020103010400230000003300260024001d002099381de560e4bd43d23d8e435a7dbafeb3c06e51c13cae4d5413691e529aaf2c002b0003020304000d0020001e040305030603020308040805080604010501060102010402050206020202002d00020101001c00024001"
	toldServerHello = "020000560303a6af06a4121860dc5e6e60249cd34c95930c8ac5cb1434dac155772ed3e2692800130100002e00330024001d0020c9828876112095fe66762bdbf7c672e156d6cc253b833df1dd69b1b04e751f0f002b00020304"
	toldShared      = "8bd4054fb55b9d63fdfbacf9f04b9f0d35e6d63f537563efd46272900f89492d"
	toldClientHS    = "b3eddb126e067f35a780b3abf45e2d8f3b1a950738f52e9600746a0e27a55a21"
	toldServerHS    = "b67b7d690cc16c4e75e54213cb2d37b4e9c912bcded9105d42befd59d391ad38"
	toldVerified    = "edb7725fa7a3473b031ec8ef65a2485493900138a2b91291407d7951a06110ed"
	toldAhead       = "9608102a0f1ccc6db6250b7b7e417b1a000eaada3daae4777a7686c9ff83df13"
	toldClientAP    = "9e40646ce79a7f9dc05af8889bce6552875afa0b06df0087f792ebb7c17504a5"
	toldServerAP    = "a11af9f05531f856ad47116b45a950328204b4f44bfb6b3a4b4f1f3fcb631643"
	toldExporter    = "fe22f881176eda18eb8f44529e6792c50c9a3f89452f68d8ae311b4309d3cf50"
	toldWhole       = "209145a96ee8e2a122ff810047cc952684658d6049e86429426db87c54ad143d"
	toldMaster      = "7df235f2031d2a051287d02b0241b0bfdaf86cc856231f2d5aba46c434ec196c"
	toldTicket      = "4ecd0eb6ec3b4d87f5d6028f922ca4c5851a277fd41311c9e62d2c9492e1c4f3"
)

func toldKeys(t *testing.T, secret, key, iv string) {
	t.Helper()
	k, v, e := sched.Keys(api.SuiteAES128, of(t, secret))
	if e != api.OK {
		t.Fatal(e)
	}
	want(t, "key", k, of(t, key))
	want(t, "iv", v[:], of(t, iv))
}

func TestToldHandshake(t *testing.T) {
	h := api.SHA256
	said := sched.NewTranscript()
	said.Add(of(t, toldClientHello))
	said.Add(of(t, toldServerHello))
	early := sched.Early(h, nil)
	hs := sched.Handshake(h, early, of(t, toldShared))
	want(t, "hellos", said.Sum(h), of(t, "860c06edc07858ee8e78f0e7428c58edd6b43f2ca3e6e95f02ed063cf0e1cad8"))
	want(t, "c hs", sched.Derive(h, hs, "c hs traffic", said.Sum(h)), of(t, toldClientHS))
	want(t, "s hs", sched.Derive(h, hs, "s hs traffic", said.Sum(h)), of(t, toldServerHS))
	want(t, "the server's code", sched.Finished(h, of(t, toldServerHS), of(t, toldVerified)), of(t, "9b9b141d906337fbd2cbdce71df4deda4ab42c309572cb7fffee5454b78f0718"))
	want(t, "the client's code", sched.Finished(h, of(t, toldClientHS), of(t, toldAhead)), of(t, "a8ec436d677634ae525ac1fcebe11a039ec17694fac6e98527b642f2edd5ce61"))
	master := sched.Master(h, hs)
	want(t, "c ap", sched.Derive(h, master, "c ap traffic", of(t, toldAhead)), of(t, toldClientAP))
	want(t, "s ap", sched.Derive(h, master, "s ap traffic", of(t, toldAhead)), of(t, toldServerAP))
	want(t, "exp", sched.Derive(h, master, "exp master", of(t, toldAhead)), of(t, toldExporter))
	res := sched.Derive(h, master, "res master", of(t, toldWhole))
	want(t, "ticket", sched.Resumed(h, res, []byte{0, 0}), of(t, toldTicket))
	want(t, "res", res, of(t, toldMaster))
	want(t, "early", early, of(t, "33ad0a1c607ec03b09e6cd9893680ce210adf300aa1f2660e1b22e10f170f92a"))
	toldKeys(t, toldServerHS, "3fce516009c21727d0f2e4e86ee403bc", "5d313eb2671276ee13000b30")
	toldKeys(t, toldClientHS, "dbfaa693d1762c5b666af5d950258d01", "5bd3c71b836e0b76bb73265f")
	toldKeys(t, toldServerAP, "9f02283b6c9c07efc26bb9f2ac92e356", "cf782b88dd83549aadf1e984")
	toldKeys(t, toldClientAP, "17422dda596ed5d9acd890e3c63f5051", "5b78923dee08579033e523d9")
}

// TestToldBinder: of the second handshake, which goes on with the first one's ticket.
func TestToldBinder(t *testing.T) {
	h := api.SHA256
	want(t, "early", sched.Early(h, of(t, toldTicket)), of(t, "9b2188e9b2fc6d64d71dc329900e20bb41915000f678aa839cbb797cb7d8332c"))
	sum := of(t, "63224b2e4573f2d3454ca84b9d009a04f6be9e05711a8396473aefa01e924a14")
	want(t, "binder", sched.Binder(h, of(t, toldTicket), sum), of(t, "3add4fb2d8fdf822a0ca3cf7678ef5e88dae990141c5924d57bb6fa31b9e5f9d"))
	key, e := sched.Expand(h, sched.Derive(h, sched.Early(h, of(t, toldTicket)), "res binder", sha.Of(h)), "finished", nil, 32)
	if e != api.OK {
		t.Fatal(e)
	}
	want(t, "its key", key, of(t, "5588673e72cb59c87d220caffe94f2dea9a3b1609f7d50e90a48227db9ed7eaa"))
}
