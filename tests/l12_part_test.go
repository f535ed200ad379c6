package tests

import (
	"fmt"
	"math"
	"math/rand"
	"slices"
	"testing"

	"loop.example/g00466/impl"
)

// A plainWay makes a term in an arena, or leaves it as it is (-1).
type plainWay func(nodes []impl.Node) ([]impl.Node, int)

// A plainMaker makes one behind the other; once one can't be, no other one is made.
type plainMaker struct {
	first, nodes []impl.Node
	failed       bool
}

func (m *plainMaker) make(way plainWay) int {
	if m.failed {
		return -1
	}
	with, k := way(m.nodes)
	if k < 0 {
		m.failed = true
		return -1
	}
	m.nodes = with
	return k
}

func (m *plainMaker) put(n impl.Node) int {
	return m.make(func(nodes []impl.Node) ([]impl.Node, int) { return plainPut(nodes, n) })
}

func (m *plainMaker) list(terms ...int) int {
	return m.make(func(nodes []impl.Node) ([]impl.Node, int) { return plainList(nodes, terms) })
}

func (m *plainMaker) answer(k int) ([]impl.Node, int) {
	if m.failed {
		return m.first, -1
	}
	return m.nodes, k
}

func makerOf(nodes []impl.Node) *plainMaker { return &plainMaker{first: nodes, nodes: nodes} }

// plainFound is the place of what is there with all that it is made of; -1 where something would be put, or can't be.
func plainFound(nodes []impl.Node, way plainWay) int {
	with, k := way(nodes)
	if len(with) != len(nodes) {
		return -1
	}
	return k
}

// partAsk is all that a part is made of, and held against.
type partAsk struct{ side, hand, mode, name, said int }

func (p partAsk) key(nodes []impl.Node) ([]impl.Node, int) { return plainSide(nodes, p.hand, p.side) }

func (p partAsk) done(nodes []impl.Node) ([]impl.Node, int) {
	return plainDone(nodes, p.hand, p.side, p.said)
}

func (p partAsk) signed(nodes []impl.Node) ([]impl.Node, int) {
	m := makerOf(nodes)
	first := m.put(atomNode(80 + p.side))
	second := m.put(hashNode(p.said))
	return m.answer(m.list(first, second))
}

func (p partAsk) plain(nodes []impl.Node) ([]impl.Node, int) {
	if p.side < 0 || p.side > 999999 {
		return nodes, -1
	}
	m := makerOf(nodes)
	key := m.make(p.key)
	var cert, sign int
	if p.mode == 1 {
		cert = m.make(func(nodes []impl.Node) ([]impl.Node, int) { return plainCert(nodes, p.name) })
		long := m.make(func(nodes []impl.Node) ([]impl.Node, int) { return plainLong(nodes, p.name) })
		sign = m.put(signNode(long, m.make(p.signed)))
	} else {
		cert = m.put(atomNode(0))
		sign = cert
	}
	done := m.make(p.done)
	return m.answer(m.put(sealNode(key, m.list(cert, sign, done))))
}

func (p partAsk) call() secretCall {
	return secretCall{fmt.Sprintf("PartOf(.., %v)", p),
		func(a impl.Arena) (impl.Arena, int) {
			return impl.PartOf(a, p.side, p.hand, p.mode, p.name, p.said)
		}, p.plain}
}

func (p partAsk) plainOk(nodes []impl.Node, k int) bool {
	if p.side < 0 || p.side > 999999 {
		return false
	}
	in, _ := plainOpen(nodes, plainFound(nodes, p.key), k)
	parts, ok := plainParts(nodes, in, 3)
	if !ok || parts[2] != plainFound(nodes, p.done) {
		return false
	}
	if p.mode != 1 {
		first, is := plainNum(nodes, parts[0])
		second, are := plainNum(nodes, parts[1])
		return is && are && first == 0 && second == 0
	}
	cert := plainCertIn(nodes, parts[0])
	what, is := plainSigned(nodes, cert.pub, parts[1])
	return cert.ok && cert.name == p.name && is && what == plainFound(nodes, p.signed)
}

func plainAckKey(hand int) plainWay {
	return func(nodes []impl.Node) ([]impl.Node, int) {
		m := makerOf(nodes)
		return m.answer(m.put(kdfNode(hand, m.put(atomNode(40)))))
	}
}

func ackCall(hand, lease, said int) secretCall {
	return secretCall{fmt.Sprintf("AckOf(.., %d, %d, %d)", hand, lease, said),
		func(a impl.Arena) (impl.Arena, int) { return impl.AckOf(a, hand, lease, said) },
		func(nodes []impl.Node) ([]impl.Node, int) {
			m := makerOf(nodes)
			key := m.make(plainAckKey(hand))
			first := m.put(atomNode(lease))
			second := m.put(hashNode(said))
			return m.answer(m.put(sealNode(key, m.list(first, second))))
		}}
}

// ackTold is what AckIn answers.
type ackTold struct {
	lease int
	ok    bool
}

func plainAckIn(nodes []impl.Node, hand, said, k int) ackTold {
	in, _ := plainOpen(nodes, plainFound(nodes, plainAckKey(hand)), k)
	parts, ok := plainParts(nodes, in, 2)
	if !ok || parts[1] != plainFound(nodes, func(nodes []impl.Node) ([]impl.Node, int) { return plainPut(nodes, hashNode(said)) }) {
		return ackTold{}
	}
	lease, ok := plainNum(nodes, parts[0])
	return ackTold{lease, ok}
}

// handAsk is all that a hand secret is made of.
type handAsk struct{ secret, pub, mode, x, y, both int }

func (h handAsk) plain(nodes []impl.Node) ([]impl.Node, int) {
	m := makerOf(nodes)
	shared := m.make(func(nodes []impl.Node) ([]impl.Node, int) { return plainDh(nodes, h.secret, h.pub) })
	psk := m.make(func(nodes []impl.Node) ([]impl.Node, int) {
		if h.mode == 2 {
			return plainPsk(nodes, h.x, h.y)
		}
		return plainAtom(nodes, 0)
	})
	return m.answer(m.make(func(nodes []impl.Node) ([]impl.Node, int) { return plainHand(nodes, shared, psk, h.both) }))
}

func (h handAsk) call() secretCall {
	return secretCall{fmt.Sprintf("HandOf(.., %v)", h),
		func(a impl.Arena) (impl.Arena, int) {
			return impl.HandOf(a, h.secret, h.pub, h.mode, h.x, h.y, h.both)
		}, h.plain}
}

func checkPart(t *testing.T, nodes []impl.Node, p partAsk, k int, want bool) {
	t.Helper()
	if got := impl.PartOk(arenaOf(nodes...), p.side, p.hand, p.mode, p.name, p.said, k); got != want {
		t.Fatalf("PartOk(%s of %d nodes, %v, %d) = %v; want %v", brief(nodes), len(nodes), p, k, got, want)
	}
}

// checkOnePart asks for a part at this place alone: no other one of the arena, and none beside it, is it.
func checkOnePart(t *testing.T, nodes []impl.Node, p partAsk, part int) {
	t.Helper()
	for k := -1; k <= len(nodes)+1; k++ {
		checkPart(t, nodes, p, k, k == part)
	}
}

func checkNoPart(t *testing.T, nodes []impl.Node, asks ...partAsk) {
	t.Helper()
	for _, p := range asks {
		checkOnePart(t, nodes, p, -2)
	}
}

func checkAck(t *testing.T, nodes []impl.Node, hand, said, k int, want ackTold) {
	t.Helper()
	lease, ok := impl.AckIn(arenaOf(nodes...), hand, said, k)
	if got := (ackTold{lease, ok}); got != want {
		t.Fatalf("AckIn(%s of %d nodes, %d, %d, %d) = %v; want %v", brief(nodes), len(nodes), hand, said, k, got, want)
	}
}

func checkOneAck(t *testing.T, nodes []impl.Node, hand, said, ack, lease int) {
	t.Helper()
	for k := -1; k <= len(nodes)+1; k++ {
		if k == ack {
			checkAck(t, nodes, hand, said, k, ackTold{lease, true})
		} else {
			checkAck(t, nodes, hand, said, k, ackTold{})
		}
	}
}

func checkNoAck(t *testing.T, nodes []impl.Node, hand, said int) {
	t.Helper()
	checkOneAck(t, nodes, hand, said, -2, 0)
}

// checkPartsPlain holds every place, and some beside them, against the plain way: as parts of these, and as acks of their hands.
func checkPartsPlain(t *testing.T, nodes []impl.Node, asks ...partAsk) {
	t.Helper()
	for _, p := range asks {
		for k := -1; k <= len(nodes)+1; k++ {
			checkPart(t, nodes, p, k, p.plainOk(nodes, k))
			checkAck(t, nodes, p.hand, p.said, k, plainAckIn(nodes, p.hand, p.said, k))
		}
	}
}

func mustPart(t *testing.T, nodes []impl.Node, p partAsk) ([]impl.Node, int) {
	t.Helper()
	return mustWords(t, nodes, p.call())
}

// Parts of both sides, of the hand secret at 1 and of what was said at 2, with a certificate and without one.
var (
	clientCert = partAsk{impl.SideClient, 1, impl.MdCert, 4, 2}
	serverCert = partAsk{impl.SideServer, 1, impl.MdCert, 9, 2}
	clientPsk  = partAsk{impl.SideClient, 1, impl.MdPsk, 4, 2}
	serverPsk  = partAsk{impl.SideServer, 1, impl.MdPsk, 9, 2}
	fourParts  = []partAsk{clientCert, serverCert, clientPsk, serverPsk}
)

// partCases bring their nodes behind three secrets, of which the first one is that by which certificates are signed.
func partCases() []secretCase {
	of := func(p partAsk, brings ...impl.Node) secretCase { return secretCase{p.call(), brings} }
	cases := []secretCase{
		of(clientPsk, atomNode(1), kdfNode(1, 3), atomNode(0), atomNode(11), kdfNode(1, 6), hashNode(2), macNode(7, 8), pairNode(9, 5), pairNode(5, 10), pairNode(5, 11), sealNode(4, 12)),
		of(serverPsk, atomNode(2), kdfNode(1, 3), atomNode(0), atomNode(12), kdfNode(1, 6), hashNode(2), macNode(7, 8), pairNode(9, 5), pairNode(5, 10), pairNode(5, 11), sealNode(4, 12)),
		of(partAsk{0, 2, 2, 4, 1}, atomNode(0), kdfNode(2, 3), atomNode(10), kdfNode(2, 5), hashNode(1), macNode(6, 7), pairNode(8, 3), pairNode(3, 9), pairNode(3, 10), sealNode(4, 11)),
		of(clientCert, atomNode(1), kdfNode(1, 3), atomNode(60), atomNode(4), atomNode(2004), pubNode(7), atomNode(0), pairNode(8, 9), pairNode(6, 10), pairNode(5, 11), signNode(0, 12),
			atomNode(81), hashNode(2), pairNode(15, 9), pairNode(14, 16), signNode(7, 17), atomNode(11), kdfNode(1, 19), macNode(20, 15), pairNode(21, 9), pairNode(18, 22), pairNode(13, 23), sealNode(4, 24)),
		of(serverCert, atomNode(2), kdfNode(1, 3), atomNode(60), atomNode(9), atomNode(2009), pubNode(7), atomNode(0), pairNode(8, 9), pairNode(6, 10), pairNode(5, 11), signNode(0, 12),
			atomNode(82), hashNode(2), pairNode(15, 9), pairNode(14, 16), signNode(7, 17), atomNode(12), kdfNode(1, 19), macNode(20, 15), pairNode(21, 9), pairNode(18, 22), pairNode(13, 23), sealNode(4, 24)),
		of(partAsk{1, 1, 1, 1, 2}, atomNode(1), kdfNode(1, 3), atomNode(60), atomNode(2001), pubNode(6), atomNode(0), pairNode(7, 8), pairNode(3, 9), pairNode(5, 10), signNode(0, 11),
			atomNode(81), hashNode(2), pairNode(14, 8), pairNode(13, 15), signNode(6, 16), atomNode(11), kdfNode(1, 18), macNode(19, 14), pairNode(20, 8), pairNode(17, 21), pairNode(12, 22), sealNode(4, 23)),
		of(partAsk{2, 0, 1, 0, 0}, atomNode(2), kdfNode(0, 3), atomNode(60), atomNode(0), atomNode(2000), pubNode(7), pairNode(8, 6), pairNode(6, 9), pairNode(5, 10), signNode(0, 11),
			atomNode(82), hashNode(0), pairNode(14, 6), pairNode(13, 15), signNode(7, 16), atomNode(12), kdfNode(0, 18), macNode(19, 14), pairNode(20, 6), pairNode(17, 21), pairNode(12, 22), sealNode(4, 23)),
	}
	for _, mode := range []int{0, 3, -1, math.MaxInt} { // as of MdPsk
		for _, name := range []int{4, -1, 10} {
			cases = append(cases, of(partAsk{1, 1, mode, name, 2}, cases[0].brings...))
		}
	}
	return append(cases, of(partAsk{1, 1, 2, -1, 2}, cases[0].brings...), of(partAsk{1, 1, 2, 10, 2}, cases[0].brings...))
}

func ackCases() []secretCase {
	of := func(c secretCall, brings ...impl.Node) secretCase { return secretCase{c, brings} }
	var cases []secretCase
	for _, lease := range []int{1, 10, 11, 12, 999999} {
		cases = append(cases, of(ackCall(1, lease, 2), atomNode(40), kdfNode(1, 3), atomNode(lease), hashNode(2), atomNode(0), pairNode(6, 7), pairNode(5, 8), sealNode(4, 9)))
	}
	return append(cases,
		of(ackCall(2, 11, 1), atomNode(40), kdfNode(2, 3), atomNode(11), hashNode(1), atomNode(0), pairNode(6, 7), pairNode(5, 8), sealNode(4, 9)),
		of(ackCall(2, 11, 2), atomNode(40), kdfNode(2, 3), atomNode(11), hashNode(2), atomNode(0), pairNode(6, 7), pairNode(5, 8), sealNode(4, 9)),
		of(ackCall(1, 0, 2), atomNode(40), kdfNode(1, 3), atomNode(0), hashNode(2), pairNode(6, 5), pairNode(5, 7), sealNode(4, 8)),
		of(ackCall(1, 40, 2), atomNode(40), kdfNode(1, 3), hashNode(2), atomNode(0), pairNode(5, 6), pairNode(3, 7), sealNode(4, 8)),
		of(ackCall(1, 1002, 2), atomNode(40), kdfNode(1, 3), hashNode(2), atomNode(0), pairNode(5, 6), pairNode(2, 7), sealNode(4, 8)))
}

// handParts are two secrets, the pubs of both, and what both said. The TermText of the first one is less.
var handParts = []impl.Node{atomNode(5000), atomNode(6000), pubNode(0), pubNode(1), atomNode(7000)}

// handCase is a hand secret behind handParts, and what it brings.
type handCase struct {
	ask    handAsk
	brings []impl.Node
}

func handCases() []handCase {
	of := func(h handAsk, brings ...impl.Node) handCase { return handCase{h, brings} }
	cases := []handCase{
		of(handAsk{0, 3, 2, 1, 9, 4}, dhNode(0, 1), atomNode(3019), pairNode(5, 6), hashNode(4), kdfNode(7, 8)),
		of(handAsk{1, 2, 2, 9, 1, 4}, dhNode(0, 1), atomNode(3019), pairNode(5, 6), hashNode(4), kdfNode(7, 8)),
		of(handAsk{0, 3, 2, 0, 0, 0}, dhNode(0, 1), atomNode(3000), pairNode(5, 6), hashNode(0), kdfNode(7, 8)),
		of(handAsk{0, 2, 2, 9, 9, 4}, dhNode(0, 0), atomNode(3099), pairNode(5, 6), hashNode(4), kdfNode(7, 8)),
		of(handAsk{4, 2, 2, 3, 9, 4}, dhNode(0, 4), atomNode(3039), pairNode(5, 6), hashNode(4), kdfNode(7, 8)),
	}
	for _, mode := range []int{1, 0, 3, -1, math.MinInt, 2 + 1<<32} {
		for _, names := range [][2]int{{1, 9}, {9, 1}, {-1, 9}, {1, 10}} {
			cases = append(cases,
				of(handAsk{0, 3, mode, names[0], names[1], 4}, dhNode(0, 1), atomNode(0), pairNode(5, 6), hashNode(4), kdfNode(7, 8)),
				of(handAsk{1, 2, mode, names[0], names[1], 4}, dhNode(0, 1), atomNode(0), pairNode(5, 6), hashNode(4), kdfNode(7, 8)))
		}
	}
	return cases
}

func TestP12TermsNodeByNode(t *testing.T) {
	for _, c := range slices.Concat(partCases(), ackCases()) {
		checkNodeByNode(t, c)
	}
}

func TestP12HandSecretsNodeByNode(t *testing.T) {
	for _, c := range handCases() {
		all := slices.Concat(handParts, c.brings)
		for there := range len(c.brings) + 1 {
			checkSecret(t, all[:len(handParts)+there], c.ask.call(), all, len(all)-1)
		}
		behind := slices.Concat(all, []impl.Node{atomNode(77), hashNode(len(all))})
		checkSecret(t, behind, c.ask.call(), behind, len(all)-1)
		others := slices.Concat(handParts, []impl.Node{dhNode(1, 0), atomNode(3), hashNode(1), kdfNode(0, 1), pairNode(0, 1)})
		want, k := c.ask.plain(others)
		if len(want) != len(others)+len(c.brings) || k != len(want)-1 {
			t.Fatalf("%v brings %v", c.ask, want[len(others):])
		}
		checkSecret(t, others, c.ask.call(), want, k)
		if !impl.ArenaOk(arenaOf(all...)) {
			t.Errorf("%v makes an arena that is not right: %v", c.ask, all)
		}
	}
}

// One that has others: what is made stands behind them, and of what it is made of only what is just that counts.
func TestP12AmongOthers(t *testing.T) {
	others := []impl.Node{atomNode(3), atomNode(13), atomNode(41), atomNode(61), atomNode(80), atomNode(83), atomNode(20), pubNode(0), hashNode(3), kdfNode(0, 1), kdfNode(0, 2), pairNode(0, 1), signNode(0, 1), sealNode(0, 1), macNode(0, 1)}
	for _, c := range slices.Concat(partCases(), ackCases()) {
		checkAmong(t, c, others...)
	}
}

// Some are there already, in another order than they would be made in.
func TestP12SomeAreThere(t *testing.T) {
	nodes := slices.Concat(threeSecrets, []impl.Node{hashNode(2), atomNode(0), atomNode(11), atomNode(1)})
	want := slices.Concat(nodes, []impl.Node{kdfNode(1, 6), kdfNode(1, 5), macNode(8, 3), pairNode(9, 4), pairNode(4, 10), pairNode(4, 11), sealNode(7, 12)})
	checkSecret(t, nodes, clientPsk.call(), want, 13)
	checkOnePart(t, want, clientPsk, 13)
	nodes = slices.Concat(threeSecrets, []impl.Node{hashNode(2), atomNode(0), pairNode(3, 4), atomNode(40)})
	want = slices.Concat(nodes, []impl.Node{kdfNode(1, 6), atomNode(11), pairNode(8, 5), sealNode(7, 9)})
	checkSecret(t, nodes, ackCall(1, 11, 2), want, 10)
	checkOneAck(t, want, 1, 2, 10, 11)
	for _, c := range slices.Concat(partCases(), ackCases()) {
		for _, first := range []impl.Node{atomNode(0), atomNode(1), atomNode(12), atomNode(40), atomNode(60), atomNode(82), atomNode(2004), hashNode(2), pubNode(0)} {
			nodes := slices.Concat(threeSecrets, []impl.Node{first})
			checkPlain(t, nodes, c.call)
			checkPlain(t, slices.Concat(nodes, []impl.Node{kdfNode(1, 3), kdfNode(0, 3), pairNode(3, 3), hashNode(1)}), c.call)
		}
	}
	for _, name := range []int{4, 9} { // the certificate is there already, as of who keeps it
		nodes, _ := mustCert(t, threeSecrets, name)
		for _, p := range fourParts {
			checkPlain(t, nodes, p.call())
			with, k := mustPart(t, nodes, p)
			checkOnePart(t, with, p, k)
		}
	}
}

// A part is right for its own side, hand secret, mode, name and words, and at its own place; whatever of these is another one, it is not.
func TestP12PartsTellWhoItIs(t *testing.T) {
	for _, p := range fourParts {
		nodes, k := mustPart(t, threeSecrets, p)
		checkOnePart(t, nodes, p, k)
		for side := -1; side <= 5; side++ {
			checkPart(t, nodes, partAsk{side, p.hand, p.mode, p.name, p.said}, k, side == p.side)
		}
		for place := -1; place <= len(nodes)+1; place++ {
			checkPart(t, nodes, partAsk{p.side, place, p.mode, p.name, p.said}, k, place == p.hand)
			checkPart(t, nodes, partAsk{p.side, p.hand, p.mode, p.name, place}, k, place == p.said)
		}
		for mode := -1; mode <= 4; mode++ {
			checkPart(t, nodes, partAsk{p.side, p.hand, mode, p.name, p.said}, k, (mode == impl.MdCert) == (p.mode == impl.MdCert))
		}
		for name := -2; name <= 11; name++ { // without a certificate no name is asked for
			checkPart(t, nodes, partAsk{p.side, p.hand, p.mode, name, p.said}, k, name == p.name || p.mode != impl.MdCert)
		}
	}
}

// All parts of some sides, hands, modes, names and words stand in one arena: each is one place, is found again there, and is no other one.
func TestP12UnlikeParts(t *testing.T) {
	var asks []partAsk
	for side := 0; side <= 3; side++ {
		for hand := range threeSecrets {
			for said := range threeSecrets {
				for _, who := range [][2]int{{impl.MdCert, 4}, {impl.MdCert, 9}, {impl.MdPsk, 0}} {
					asks = append(asks, partAsk{side, hand, who[0], who[1], said})
				}
			}
		}
	}
	nodes, places := threeSecrets, make([]int, len(asks))
	for i, p := range asks {
		nodes, places[i] = mustPart(t, nodes, p)
	}
	if !impl.ArenaOk(arenaOf(nodes...)) {
		t.Fatal("what is made makes an arena that is not right")
	}
	for i, p := range asks {
		checkSecret(t, nodes, p.call(), nodes, places[i])
		for j, k := range places {
			checkPart(t, nodes, p, k, i == j)
		}
	}
}

// What one said comes back as what the other end should say: a part of one's own is none of the other side, though both have one name.
func TestP12PartsOfOneSelf(t *testing.T) {
	for _, mode := range []int{impl.MdCert, impl.MdPsk, 0, 3} {
		for name := range 10 {
			mine, yours := partAsk{impl.SideClient, 1, mode, name, 2}, partAsk{impl.SideServer, 1, mode, name, 2}
			nodes, client := mustPart(t, threeSecrets, mine)
			checkNoPart(t, nodes, yours)
			nodes, server := mustPart(t, nodes, yours)
			if client == server {
				t.Fatalf("both sides have one part: %d of %v", client, nodes)
			}
			checkOnePart(t, nodes, mine, client)
			checkOnePart(t, nodes, yours, server)
			nodes, ack := mustWords(t, nodes, ackCall(1, 11, 2))
			checkOneAck(t, nodes, 1, 2, ack, 11)
			checkPart(t, nodes, mine, ack, false)
			checkPart(t, nodes, yours, ack, false)
		}
	}
}

// Every right node is a hand secret, and words.
func TestP12AnyHandAndWords(t *testing.T) {
	base := slices.Concat(threeSecrets, []impl.Node{hashNode(0), kdfNode(0, 1), pubNode(1), dhNode(0, 1), signNode(0, 1), macNode(0, 1), sealNode(0, 1), pairNode(0, 1), atomNode(0), atomNode(81)})
	for hand := range base {
		for said := range base {
			for _, mode := range []int{impl.MdCert, impl.MdPsk} {
				p := partAsk{impl.SideClient, hand, mode, 4, said}
				checkPlain(t, base, p.call())
				nodes, k := mustPart(t, base, p)
				checkOnePart(t, nodes, p, k)
			}
			checkPlain(t, base, ackCall(hand, 11, said))
			nodes, k := mustWords(t, base, ackCall(hand, 11, said))
			checkOneAck(t, nodes, hand, said, k, 11)
		}
	}
}

// Sides are any of which there are the Atoms: of it, of it and 10, and with a certificate of it and 80.
func TestP12Sides(t *testing.T) {
	for _, c := range []struct {
		side      int
		cert, psk bool
	}{
		{0, true, true}, {1, true, true}, {2, true, true}, {3, true, true}, {40, true, true}, {70, true, true}, {1000, true, true}, {999918, true, true}, {999919, true, true},
		{999920, false, true}, {999988, false, true}, {999989, false, true}, {999990, false, false}, {999999, false, false}, {1000000, false, false},
		{-1, false, false}, {-10, false, false}, {-80, false, false}, {-81, false, false}, {1<<32 + 1, false, false}, {math.MaxInt, false, false}, {math.MaxInt - 79, false, false}, {math.MaxInt - 9, false, false}, {math.MinInt, false, false}, {math.MinInt + 1, false, false},
	} {
		for mode, can := range map[int]bool{impl.MdCert: c.cert, impl.MdPsk: c.psk, 0: c.psk, 3: c.psk} {
			p := partAsk{c.side, 1, mode, 4, 2}
			checkPlain(t, threeSecrets, p.call())
			if !can {
				checkRefused(t, threeSecrets, p.call())
				nodes, _ := mustPart(t, threeSecrets, clientCert)
				checkNoPart(t, nodes, p)
				continue
			}
			nodes, k := mustPart(t, threeSecrets, p)
			checkOnePart(t, nodes, p, k)
			checkPart(t, nodes, partAsk{c.side + 1, 1, mode, 4, 2}, k, false)
			checkPart(t, nodes, partAsk{c.side - 1, 1, mode, 4, 2}, k, false)
		}
	}
}

// With a certificate the name is somebody's; without one no name is asked for, and with neither mode there is none.
func TestP12NamesAndModes(t *testing.T) {
	for name := -2; name <= 12; name++ {
		for mode := -1; mode <= 4; mode++ {
			p := partAsk{impl.SideServer, 1, mode, name, 2}
			checkPlain(t, threeSecrets, p.call())
			if mode == impl.MdCert && !isSomebody(name) {
				checkRefused(t, threeSecrets, p.call())
				nodes, _ := mustPart(t, threeSecrets, serverCert)
				nodes, _ = mustPart(t, nodes, serverPsk)
				checkNoPart(t, nodes, p)
				continue
			}
			nodes, k := mustPart(t, threeSecrets, p)
			checkOnePart(t, nodes, p, k)
		}
	}
	for _, name := range nobodys {
		checkRefused(t, threeSecrets, partAsk{1, 1, impl.MdCert, name, 2}.call())
		checkPlain(t, threeSecrets, partAsk{1, 1, impl.MdPsk, name, 2}.call())
		for _, other := range []int{0, 4, 9, name} {
			checkRefused(t, handParts, handAsk{0, 3, impl.MdPsk, name, other, 4}.call(), handAsk{0, 3, impl.MdPsk, other, name, 4}.call())
			checkPlain(t, handParts, handAsk{0, 3, impl.MdCert, name, other, 4}.call())
		}
	}
}

// The lease of an ack comes back, to who has its hand secret and its words, and to nobody else.
func TestP12AcksTellTheirLease(t *testing.T) {
	for _, lease := range []int{0, 1, 9, 10, 11, 12, 40, 80, 999, 1000, 1001, 1002, 999998, 999999} {
		nodes, k := mustWords(t, threeSecrets, ackCall(1, lease, 2))
		checkOneAck(t, nodes, 1, 2, k, lease)
		for place := -1; place <= len(nodes)+1; place++ {
			if place != 1 {
				checkNoAck(t, nodes, place, 2)
			}
			if place != 2 {
				checkNoAck(t, nodes, 1, place)
			}
		}
		for _, p := range fourParts {
			checkNoPart(t, nodes, p)
		}
	}
	for _, lease := range []int{-1, -2, math.MinInt, 1000000, 1000001, 1<<32 + 11, math.MaxInt} {
		for _, nodes := range [][]impl.Node{nil, threeSecrets, fullBut(20)} {
			checkRefused(t, nodes, ackCall(1, lease, 2), ackCall(0, lease, 0))
		}
	}
}

// Acks of some hands, leases and words in one arena: each tells its own lease, where its own hand and words are asked for.
func TestP12UnlikeAcks(t *testing.T) {
	type ask struct{ hand, lease, said int }
	nodes, acks := threeSecrets, map[int]ask{}
	for hand := range threeSecrets {
		for said := range threeSecrets {
			for _, lease := range []int{0, 10, 11, 12} {
				var k int
				nodes, k = mustWords(t, nodes, ackCall(hand, lease, said))
				acks[k] = ask{hand, lease, said}
			}
		}
	}
	if len(acks) != 36 || !impl.ArenaOk(arenaOf(nodes...)) {
		t.Fatalf("%d acks of 36, in an arena that is right: %v", len(acks), impl.ArenaOk(arenaOf(nodes...)))
	}
	for hand := range threeSecrets {
		for said := range threeSecrets {
			for k := -1; k <= len(nodes); k++ {
				if c, is := acks[k]; is && c.hand == hand && c.said == said {
					checkAck(t, nodes, hand, said, k, ackTold{c.lease, true})
				} else {
					checkAck(t, nodes, hand, said, k, ackTold{})
				}
			}
		}
	}
}

// Both ends make one hand secret, each of its own secret and the pub of the other one; other secrets, modes, names or words make another one.
func TestP12BothEndsMakeTheSame(t *testing.T) {
	nodes := slices.Concat(handParts, []impl.Node{atomNode(8000), pubNode(5), kdfNode(0, 1), pubNode(7), hashNode(4)})
	secrets := map[int]int{0: 2, 1: 3, 5: 6, 7: 8} // with their pubs
	made := map[int]string{}
	for x, pubX := range secrets {
		for y, pubY := range secrets {
			for _, mode := range []int{impl.MdCert, impl.MdPsk} {
				for _, names := range [][2]int{{1, 9}, {2, 9}, {9, 9}} {
					for _, both := range []int{4, 9} {
						mine, yours := handAsk{x, pubY, mode, names[0], names[1], both}, handAsk{y, pubX, mode, names[1], names[0], both}
						var k, other int
						nodes, k = mustWords(t, nodes, mine.call())
						nodes, other = mustWords(t, nodes, yours.call())
						told := fmt.Sprint(min(x, y), max(x, y), mode, names, both)
						if mode == impl.MdCert {
							told = fmt.Sprint(min(x, y), max(x, y), mode, both)
						}
						if old := made[k]; k != other || old != "" && old != told {
							t.Fatalf("%v is at %d, %v at %d, where %q is", mine, k, yours, other, old)
						}
						made[k] = told
					}
				}
			}
		}
	}
	if len(made) != 10*2*4 || !impl.ArenaOk(arenaOf(nodes...)) {
		t.Errorf("%d hand secrets, of 10 pairs of secrets, and of one or three of names", len(made))
	}
}

// Both ends begin with what each knows, and come to parts that the other one takes: the whole of what both say, in one arena.
func TestP12BothEndsTakeEachOthersParts(t *testing.T) {
	for _, mode := range []int{impl.MdCert, impl.MdPsk} {
		nodes := handParts // the client's secret is at 0, the server's at 1
		put := func(c secretCall) int {
			var k int
			nodes, k = mustWords(t, nodes, c)
			return k
		}
		hand, same := put(handAsk{0, 3, mode, 1, 9, 4}.call()), put(handAsk{1, 2, mode, 9, 1, 4}.call())
		server := partAsk{impl.SideServer, hand, mode, 9, 4}
		k := put(server.call())
		checkPart(t, nodes, partAsk{impl.SideServer, same, mode, 9, 4}, k, true)
		said := put(handCall(4, k, k)) // any term that tells what was said till then
		client := partAsk{impl.SideClient, hand, mode, 1, said}
		back := put(client.call())
		checkPart(t, nodes, partAsk{impl.SideClient, same, mode, 1, said}, back, true)
		checkPart(t, nodes, partAsk{impl.SideClient, same, mode, 1, 4}, back, false)
		ack := put(ackCall(hand, 11, said))
		checkAck(t, nodes, same, said, ack, ackTold{11, true})
		checkAck(t, nodes, same, 4, ack, ackTold{})
		if !impl.ArenaOk(arenaOf(nodes...)) {
			t.Errorf("what both say makes an arena that is not right: %v", nodes)
		}
	}
}

// sealedPart has a List of these in the seal of the key, in an arena.
func sealedPart(t *testing.T, nodes []impl.Node, key int, list ...int) ([]impl.Node, int) {
	t.Helper()
	m := makerOf(nodes)
	with, k := m.answer(m.put(sealNode(key, m.list(list...))))
	if k < 0 {
		t.Fatalf("no seal of a List of %v", list)
	}
	return with, k
}

// certPart is what clientCert is made of, by places, and the arena in which it stands.
type certPart struct {
	nodes                                       []impl.Node
	part, key, cert, sign, done, signed, nought int
}

func certPartOf(t *testing.T, p partAsk) certPart {
	t.Helper()
	nodes, k := mustPart(t, threeSecrets, p)
	parts, ok := plainParts(nodes, nodes[k].B, 3)
	if !ok {
		t.Fatalf("a part is no List of three: %v", nodes)
	}
	return certPart{nodes, k, nodes[k].A, parts[0], parts[1], parts[2], nodes[parts[1]].B, slices.Index(nodes, atomNode(0))}
}

// Each of the three in a part is another one, that others could have said.
func TestP12PartsThatAreOthers(t *testing.T) {
	base := certPartOf(t, clientCert)
	nodes := base.nodes
	put := func(c secretCall) int {
		var k int
		nodes, k = mustWords(t, nodes, c)
		return k
	}
	node := func(n impl.Node) int {
		var k int
		nodes, k = plainPut(nodes, n)
		return k
	}
	list := func(terms ...int) int {
		var k int
		nodes, k = plainList(nodes, terms)
		return k
	}
	five, long5, long4 := put(certCall(5)), put(longCall(5)), put(longCall(4))
	eighty, eightyTwo, words, other := node(atomNode(81)), node(atomNode(82)), node(hashNode(2)), node(hashNode(0))
	signs := []int{
		node(signNode(long5, base.signed)), node(signNode(0, base.signed)), node(signNode(1, base.signed)), // of another secret
		node(signNode(long4, list(eightyTwo, words))), node(signNode(long4, list(eighty, other))), node(signNode(long4, list(eighty))), node(signNode(long4, list(words, eighty))), // of another List
		node(signNode(long4, list(eighty, words, words))), node(signNode(long4, words)), node(signNode(long4, base.nought)), node(signNode(long4, node(pairNode(eighty, words)))),
		node(macNode(long4, base.signed)), node(sealNode(long4, base.signed)), node(pairNode(long4, base.signed)), node(kdfNode(long4, base.signed)), // no sign
		base.cert, base.done, base.nought, 0,
	}
	macs := []int{put(doneCall(1, 2, 2)), put(doneCall(0, 1, 2)), put(doneCall(1, 1, 0)), put(doneCall(1, 0, 2)), put(appCall(1, 2)), put(sideCall(1, 1)), node(macNode(base.key, words)), base.sign, base.cert, base.nought, words, 0}
	certs := []int{five, put(certCall(0)), node(signNode(1, nodes[base.cert].B)), node(macNode(0, nodes[base.cert].B)), nodes[base.cert].B, base.sign, base.done, base.nought, 0}
	keys := []int{put(sideCall(1, 2)), put(sideCall(0, 1)), put(sideCall(2, 1)), put(sideCall(1, 0)), 0, 1, 2, base.done}
	if !impl.ArenaOk(arenaOf(nodes...)) {
		t.Fatal("the arena is not right")
	}
	refused := func(key int, terms ...int) {
		with, k := sealedPart(t, nodes, key, terms...)
		for _, p := range fourParts {
			checkPart(t, with, p, k, false)
		}
		checkPart(t, with, partAsk{1, 1, 1, 5, 2}, k, false)
	}
	for _, sign := range signs {
		refused(base.key, base.cert, sign, base.done)
	}
	for _, mac := range macs {
		refused(base.key, base.cert, base.sign, mac)
		refused(base.key, base.nought, base.nought, mac)
	}
	for _, cert := range certs {
		refused(base.key, cert, base.sign, base.done)
	}
	for _, key := range keys {
		refused(key, base.cert, base.sign, base.done)
		refused(key, base.nought, base.nought, base.done)
	}
	with, k := sealedPart(t, nodes, base.key, five, signs[0], base.done) // one of 5 then
	checkPart(t, with, partAsk{1, 1, 1, 5, 2}, k, true)
	checkPart(t, with, clientCert, k, false)
}

// The pub is the one that the certificate tells: who has a certificate with another pub signs with what that is of.
func TestP12TheKeyIsThatOfTheCertificate(t *testing.T) {
	base := certPartOf(t, clientCert)
	for _, of := range []impl.Node{atomNode(5000), atomNode(2005), hashNode(1), kdfNode(0, 1)} {
		m := makerOf(base.nodes)
		secret := m.put(of)
		list := m.list(m.put(atomNode(60)), m.put(atomNode(4)), m.put(pubNode(secret)))
		cert, sign := m.put(signNode(0, list)), m.put(signNode(secret, base.signed))
		nodes, k := sealedPart(t, m.nodes, base.key, cert, sign, base.done)
		checkPart(t, nodes, clientCert, k, true)
		checkPart(t, nodes, partAsk{1, 1, 1, 5, 2}, k, false)
		nodes, k = sealedPart(t, nodes, base.key, cert, base.sign, base.done)
		checkPart(t, nodes, clientCert, k, false)
		nodes, k = sealedPart(t, nodes, base.key, base.cert, sign, base.done)
		checkPart(t, nodes, clientCert, k, false)
	}
}

// A certificate alone tells nothing: without a sign there is no part of its name, also where the List that would be signed is not there.
func TestP12CertificatesWithoutASign(t *testing.T) {
	m := makerOf(threeSecrets)
	key, done := m.make(clientCert.key), m.make(clientCert.done)
	nodes, cert := mustCert(t, m.nodes, 4)
	nought := slices.Index(nodes, atomNode(0))
	for sign := range nodes {
		with, _ := sealedPart(t, nodes, key, cert, sign, done)
		checkNoPart(t, with, clientCert)
		with, signed := clientCert.signed(with)
		checkNoPart(t, with, clientCert)
		with, _ = sealedPart(t, with, key, cert, signed, done)
		checkNoPart(t, with, clientCert)
	}
	with, k := sealedPart(t, nodes, key, nought, nought, done)
	checkOnePart(t, with, clientPsk, k)
	checkNoPart(t, with, clientCert)
}

// Without a certificate both are Atom 0: no other Atom, no certificate and no sign.
func TestP12OtherAtomsThanNought(t *testing.T) {
	base := certPartOf(t, clientCert)
	nodes := slices.Concat(base.nodes, []impl.Node{atomNode(3), pairNode(base.nought, base.nought)})
	others := []int{len(nodes) - 2, len(nodes) - 1, 0, 1, 2, base.cert, base.sign, base.done, base.signed, base.key, base.part}
	with, k := sealedPart(t, nodes, base.key, base.nought, base.nought, base.done)
	checkOnePart(t, with, clientPsk, k)
	checkSecret(t, with, clientPsk.call(), with, k)
	for _, x := range others {
		for _, list := range [][]int{{x, base.nought, base.done}, {base.nought, x, base.done}, {x, x, base.done}} {
			with, k := sealedPart(t, nodes, base.key, list...)
			for _, mode := range []int{2, 0, 3} {
				checkPart(t, with, partAsk{1, 1, mode, 4, 2}, k, false)
			}
			checkPart(t, with, clientCert, k, false)
		}
	}
}

// Lists of other lengths and orders, and those that end with another Atom.
func TestP12ListsThatAreOthers(t *testing.T) {
	base := certPartOf(t, clientCert)
	c, s, d, n := base.cert, base.sign, base.done, base.nought
	for _, list := range [][]int{{}, {c}, {d}, {c, s}, {s, d}, {c, d}, {n, d}, {n, n}, {c, s, d, n}, {c, s, d, d}, {n, n, d, n}, {n, n, n, d}, {c, c, s, d}, {s, c, d}, {c, d, s}, {d, s, c}, {d, n, n}, {n, d, n}} {
		nodes, k := sealedPart(t, base.nodes, base.key, list...)
		for _, p := range fourParts {
			checkPart(t, nodes, p, k, false)
		}
	}
	for _, end := range []int{c, s, d, 0, base.part} {
		m := makerOf(base.nodes)
		whole := m.put(pairNode(c, m.put(pairNode(s, m.put(pairNode(d, end))))))
		nodes, k := m.answer(m.put(sealNode(base.key, whole)))
		checkPart(t, nodes, clientCert, k, false)
		nodes, k = plainPut(nodes, sealNode(base.key, d))
		checkPart(t, nodes, clientCert, k, false)
	}
	for _, other := range []int{1, 2, 3, 4, 6, 7, 8, 9} { // no seal
		nodes, k := plainPut(base.nodes, kindNode(other, base.key, base.nodes[base.part].B))
		checkPart(t, nodes, clientCert, k, false)
	}
}

// Acks of another form: other keys, Lists of one and of three, in another order, without an Atom or with another TmHash, and what is no seal.
func TestP12AcksOfAnotherForm(t *testing.T) {
	nodes, ack := mustWords(t, threeSecrets, ackCall(1, 11, 2)) // Atom 40 at 3, its TmKdf at 4, Atom 11 at 5, TmHash at 6, Atom 0 at 7
	nodes = slices.Concat(nodes, []impl.Node{hashNode(1), hashNode(6), kdfNode(0, 3), kdfNode(1, 5), kdfNode(3, 1), pubNode(2), kdfNode(2, 3)})
	for _, list := range [][]int{{}, {5}, {6}, {6, 5}, {5, 5}, {6, 6}, {5, 6, 6}, {5, 6, 7}, {5, 5, 6}, {5, 11}, {5, 12}, {5, 16}, {5, 2}, {5, 7}, {11, 6}, {4, 6}, {10, 6}, {16, 6}} {
		with, k := sealedPart(t, nodes, 4, list...)
		checkOneAck(t, with, 1, 2, ack, 11)
		checkAck(t, with, 1, 2, k, ackTold{})
	}
	for _, key := range []int{0, 1, 2, 3, 5, 6, 13, 14, 15, 17} {
		with, k := sealedPart(t, nodes, key, 5, 6)
		checkOneAck(t, with, 1, 2, ack, 11)
		checkAck(t, with, 1, 2, k, ackTold{})
	}
	with, k := sealedPart(t, nodes, 4, 7, 6) // of the lease 0
	checkAck(t, with, 1, 2, k, ackTold{0, true})
	with, k = sealedPart(t, nodes, 4, 0, 6)
	checkAck(t, with, 1, 2, k, ackTold{1000, true})
	for kind := 0; kind <= 10; kind++ {
		has := slices.Clone(nodes)
		has[ack].Kind = kind
		if kind == impl.TmSeal {
			checkOneAck(t, has, 1, 2, ack, 11)
		} else {
			checkNoAck(t, has, 1, 2)
		}
	}
}

// Places below 0 and past the end, at each argument.
func TestP12PlacesThatAreNone(t *testing.T) {
	for _, k := range append(slices.Clone(outside), 40, 41, 1<<32) {
		for _, p := range fourParts {
			checkRefused(t, threeSecrets, partAsk{p.side, k, p.mode, p.name, 2}.call(), partAsk{p.side, 1, p.mode, p.name, k}.call(), partAsk{p.side, k, p.mode, p.name, k}.call())
			nodes, part := mustPart(t, threeSecrets, p)
			checkPart(t, nodes, partAsk{p.side, k, p.mode, p.name, 2}, part, false)
			checkPart(t, nodes, partAsk{p.side, 1, p.mode, p.name, k}, part, false)
			checkPart(t, nodes, p, k, false)
			checkPart(t, nil, p, k, false)
		}
		checkRefused(t, threeSecrets, ackCall(k, 11, 2), ackCall(1, 11, k), ackCall(k, 11, k))
		nodes, ack := mustWords(t, threeSecrets, ackCall(1, 11, 2))
		checkAck(t, nodes, k, 2, ack, ackTold{})
		checkAck(t, nodes, 1, k, ack, ackTold{})
		checkAck(t, nodes, 1, 2, k, ackTold{})
		checkAck(t, nil, 1, 2, k, ackTold{})
		for _, mode := range []int{0, 1, 2, 3} {
			checkRefused(t, handParts, handAsk{k, 3, mode, 1, 9, 4}.call(), handAsk{0, k, mode, 1, 9, 4}.call(), handAsk{0, 3, mode, 1, 9, k}.call(), handAsk{k, k, mode, 1, 9, k}.call())
			for pub := range handParts { // what is no TmPub
				if handParts[pub].Kind != impl.TmPub {
					checkRefused(t, handParts, handAsk{0, pub, mode, 1, 9, 4}.call())
				}
			}
		}
	}
	for _, c := range []secretCall{clientCert.call(), clientPsk.call(), ackCall(1, 11, 2), handAsk{0, 1, 1, 1, 9, 0}.call()} {
		checkPlain(t, nil, c)
	}
}

// Whether a hand or words are there is asked when what is made of them is put: they may be what the call brought till then. A secret and a pub must be there ahead of all.
func TestP12PlacesOfWhatTheCallBrings(t *testing.T) {
	for hand := -1; hand <= 30; hand++ {
		for said := -1; said <= 30; said++ {
			for _, p := range fourParts {
				checkPlain(t, threeSecrets, partAsk{p.side, hand, p.mode, p.name, said}.call())
				checkPlain(t, nil, partAsk{p.side, hand, p.mode, p.name, said}.call())
			}
			checkPlain(t, threeSecrets, ackCall(hand, 11, said), ackCall(hand, 40, said))
			checkPlain(t, nil, ackCall(hand, 11, said))
		}
	}
	checkSecret(t, nil, ackCall(0, 11, 2), []impl.Node{atomNode(40), kdfNode(0, 0), atomNode(11), hashNode(2), atomNode(0), pairNode(3, 4), pairNode(2, 5), sealNode(1, 6)}, 7)
	checkRefused(t, nil, ackCall(1, 11, 0), ackCall(0, 11, 3))
	for both := -1; both <= 12; both++ {
		for _, mode := range []int{1, 2} {
			checkPlain(t, handParts, handAsk{0, 3, mode, 1, 9, both}.call(), handAsk{5, 3, mode, 1, 9, both}.call(), handAsk{0, 5, mode, 1, 9, both}.call())
		}
	}
	checkSecret(t, handParts, handAsk{0, 3, 2, 1, 9, 7}.call(), slices.Concat(handParts, []impl.Node{dhNode(0, 1), atomNode(3019), pairNode(5, 6), hashNode(7), kdfNode(7, 8)}), 9)
	checkRefused(t, handParts, handAsk{0, 3, 2, 1, 9, 8}.call(), handAsk{5, 3, 2, 1, 9, 4}.call())
}

func TestP12Room(t *testing.T) {
	for _, c := range slices.Concat(partCases()[:1], partCases()[3:4], ackCases()[2:3]) {
		checkRoom(t, c)
	}
	for _, c := range handCases()[:6] {
		for there := range len(c.brings) + 1 {
			for room := range len(c.brings) + 2 {
				nodes := slices.Concat(handParts, c.brings[:there])
				for i := 0; len(nodes) < impl.MaxNodes-room; i++ {
					nodes = append(nodes, atomNode(10000+i))
				}
				checkPlain(t, nodes, c.ask.call())
				if room < len(c.brings)-there {
					checkRefused(t, nodes, c.ask.call())
				}
			}
		}
	}
}

// Some of the terms are there, and those behind them have room or not: then nothing of them stays.
func TestP12RoomWithSomeThere(t *testing.T) {
	for _, first := range [][]impl.Node{{atomNode(0)}, {hashNode(2)}, {atomNode(1), kdfNode(1, 3)}, {atomNode(60), atomNode(4), atomNode(2004), pubNode(5)}, {atomNode(11), kdfNode(1, 3), hashNode(2), macNode(4, 5)}, {atomNode(40), hashNode(2), atomNode(0), pairNode(4, 5)}} {
		for room := range 24 {
			nodes := fullBut(room, first...)
			checkPlain(t, nodes, clientCert.call(), clientPsk.call(), serverPsk.call(), ackCall(1, 11, 2), ackCall(1, 5000, 2))
			checkRefused(t, nodes, partAsk{1, 1, 1, 10, 2}.call(), partAsk{-1, 1, 2, 4, 2}.call(), ackCall(1, -1, 2))
			for _, k := range []int{-1, 0, 3, 4, 5, 6, len(nodes) - 1, len(nodes), len(nodes) + 1} {
				checkPart(t, nodes, clientCert, k, false)
				checkPart(t, nodes, clientPsk, k, false)
				checkAck(t, nodes, 1, 2, k, ackTold{})
			}
		}
	}
}

// A part or an ack at the very end of a full arena is right there: what is asked for needs no room. So it is in one that is too long.
func TestP12FullArena(t *testing.T) {
	for i, p := range fourParts {
		brings := []int{23, 23, 11, 11}[i]
		checkRefused(t, fullBut(brings-1), p.call())
		nodes, k := mustPart(t, fullBut(brings), p)
		if len(nodes) != impl.MaxNodes || k != impl.MaxNodes-1 {
			t.Fatalf("a part at %d of %d nodes", k, len(nodes))
		}
		for _, has := range [][]impl.Node{nodes, slices.Concat(nodes, []impl.Node{hashNode(0), hashNode(1)})} {
			checkSecret(t, has, p.call(), has, k)
			checkPart(t, has, p, k, true)
			for _, other := range fourParts {
				checkPart(t, has, other, k, p == other)
				checkPart(t, has, other, k-1, false)
				checkPart(t, has, other, k+1, false)
			}
			checkPart(t, has, partAsk{p.side, 0, p.mode, p.name, p.said}, k, false)
			checkPart(t, has, partAsk{p.side, p.hand, p.mode, p.name, 0}, k, false)
			checkRefused(t, has, partAsk{p.side, 0, p.mode, p.name, p.said}.call(), ackCall(1, 11, 2))
		}
		one := slices.Concat(nodes[:k], []impl.Node{pubNode(1)}) // all but the seal
		checkPart(t, one, p, k, false)
		checkRefused(t, one, p.call())
		at := slices.Index(nodes, nodes[nodes[k].A]) // all but what it is sealed with
		lost := slices.Clone(nodes)
		lost[at] = pubNode(1)
		checkPart(t, lost, p, k, false)
	}
	nodes, k := mustWords(t, fullBut(8), ackCall(1, 11, 2))
	if len(nodes) != impl.MaxNodes || k != impl.MaxNodes-1 {
		t.Fatalf("an ack at %d of %d nodes", k, len(nodes))
	}
	for _, has := range [][]impl.Node{nodes, slices.Concat(nodes, []impl.Node{pubNode(0), pubNode(1)})} {
		checkSecret(t, has, ackCall(1, 11, 2), has, k)
		checkAck(t, has, 1, 2, k, ackTold{11, true})
		for _, c := range [][2]int{{0, 2}, {1, 0}, {2, 1}, {1, 1}, {-1, 2}, {1, -1}, {1, len(has)}} {
			checkAck(t, has, c[0], c[1], k, ackTold{})
		}
		checkAck(t, has, 1, 2, k-1, ackTold{})
		checkAck(t, has, 1, 2, k+1, ackTold{})
	}
}

// What is only looked for is not put: where a node is missing to what a part or an ack is held against, there is none, also where that node would come to stand at a place that others have already.
func TestP12WhatIsAskedForIsNotPut(t *testing.T) {
	nodes := slices.Concat(threeSecrets, []impl.Node{atomNode(1), kdfNode(1, 3), atomNode(0), atomNode(11), kdfNode(1, 6), macNode(7, 14), pairNode(8, 5), pairNode(5, 9), pairNode(5, 10), sealNode(4, 11), atomNode(81)})
	with := slices.Concat(nodes, []impl.Node{hashNode(2)})
	checkNoPart(t, nodes, fourParts...)
	checkSecret(t, nodes, clientPsk.call(), with, 12)
	checkOnePart(t, with, clientPsk, 12)
	nodes = slices.Concat(threeSecrets, []impl.Node{hashNode(2), kdfNode(1, 9), atomNode(0), pairNode(3, 5), pairNode(0, 6), sealNode(4, 7)})
	with = slices.Concat(nodes, []impl.Node{atomNode(40)})
	checkNoAck(t, nodes, 1, 2)
	checkSecret(t, nodes, ackCall(1, 1000, 2), with, 8)
	checkOneAck(t, with, 1, 2, 8, 1000)

	all, k := mustPart(t, threeSecrets, clientPsk)
	for at := 3; at < len(all); at++ {
		lost := slices.Clone(all)
		lost[at] = pubNode(0)
		checkNoPart(t, lost, clientPsk)
	}
	acked, ack := mustWords(t, threeSecrets, ackCall(1, 11, 2))
	for at := 3; at < len(acked); at++ {
		lost := slices.Clone(acked)
		lost[at] = pubNode(0)
		checkNoAck(t, lost, 1, 2)
	}
	for _, at := range []int{1, 2} { // of a hand and of words only their places count
		other, otherAck := slices.Clone(all), slices.Clone(acked)
		other[at], otherAck[at] = pubNode(0), pubNode(0)
		checkOnePart(t, other, clientPsk, k)
		checkOneAck(t, otherAck, 1, 2, ack, 11)
	}
}

func partCalls(end int) []secretCall {
	calls := []secretCall{partAsk{-1, 0, 2, 4, 0}.call(), partAsk{1, 0, 1, 10, 0}.call(), ackCall(0, -1, 0), ackCall(0, 1000000, 0)}
	for x := -1; x <= end+2; x++ {
		calls = append(calls, partAsk{1, x, 1, 4, 0}.call(), partAsk{1, 0, 1, 4, x}.call(), partAsk{2, x, 2, 4, 0}.call(), partAsk{2, 0, 2, 4, x}.call(), partAsk{2, x, 0, 4, x}.call(),
			ackCall(x, 11, 0), ackCall(0, 11, x), ackCall(x, 0, x))
		for _, mode := range []int{1, 2} {
			calls = append(calls, handAsk{x, 2, mode, 1, 9, 0}.call(), handAsk{0, x, mode, 9, 1, 0}.call(), handAsk{0, 2, mode, 1, 9, x}.call(), handAsk{x, x, mode, 1, 10, x}.call())
		}
	}
	return calls
}

// A node that would be right nowhere, wherever it stands.
func TestP12WrongNodes(t *testing.T) {
	for _, wrong := range wrongNodes {
		for _, p := range fourParts {
			right, k := mustPart(t, threeSecrets, p)
			for at := range right {
				nodes := slices.Clone(right)
				nodes[at] = wrong
				checkPart(t, nodes, p, k, p.plainOk(nodes, k))
				if at > 2 && at != 7 { // 7 is what the pub is of, which is not looked at
					checkNoPart(t, nodes, p)
				}
				checkPlain(t, nodes, p.call(), ackCall(1, 11, 2))
			}
			behind := slices.Concat(right, []impl.Node{wrong})
			checkOnePart(t, behind, p, k)
			checkSecret(t, behind, p.call(), behind, k)
		}
		acked, ack := mustWords(t, threeSecrets, ackCall(1, 11, 2))
		for at := range acked {
			nodes := slices.Clone(acked)
			nodes[at] = wrong
			if at < 3 { // of a hand and of words only their places count
				checkOneAck(t, nodes, 1, 2, ack, 11)
			} else {
				checkNoAck(t, nodes, 1, 2)
			}
		}
		for at := range handParts {
			nodes := slices.Clone(handParts)
			nodes[at] = wrong
			checkPlain(t, nodes, partCalls(len(nodes))...)
		}
		checkPlain(t, []impl.Node{wrong}, partCalls(1)...)
	}
}

// What a node has that its kind has not, or other terms than it should, makes it another one.
func TestP12NodesWithMore(t *testing.T) {
	for _, p := range fourParts {
		right, k := mustPart(t, threeSecrets, p)
		for at, n := range right {
			for _, more := range []impl.Node{{Num: 1}, {A: 1}, {B: 1}, {Num: -1}, {A: -1}, {B: -1}} {
				nodes := slices.Clone(right)
				nodes[at] = impl.Node{Kind: n.Kind, Num: n.Num + more.Num, A: n.A + more.A, B: n.B + more.B}
				checkPartsPlain(t, nodes, p)
				checkPlain(t, nodes, p.call())
				if at > 2 && at != 7 {
					checkPart(t, nodes, p, k, false)
				}
			}
		}
	}
}

// Nodes that stand ahead of what they have are found, as Put finds them, where a place is asked whether it is that: the mac, and the List that is signed. A seal, its List, a certificate and a sign are read, and are none there.
func TestP12NodesThatStandAheadOfWhatTheyHave(t *testing.T) {
	for _, p := range []partAsk{clientCert, clientPsk} {
		base, k := mustPart(t, threeSecrets, p)
		read := map[int]bool{k: true}
		parts, _ := plainParts(base, base[k].B, 3)
		for pair := base[k].B; base[pair].Kind == impl.TmPair; pair = base[pair].B {
			read[pair] = true
		}
		if p.mode == impl.MdCert {
			read[parts[0]], read[parts[1]] = true, true
			for pair := base[parts[0]].B; base[pair].Kind == impl.TmPair; pair = base[pair].B {
				read[pair] = true
			}
			read[slices.IndexFunc(base, func(n impl.Node) bool { return n.Kind == impl.TmPub })] = true
		}
		for at, n := range base {
			if n.Kind == impl.TmAtom {
				continue
			}
			// The node changes places with the one that it has: it stands ahead of it then.
			other := max(n.A, n.B)
			if other < 3 {
				continue
			}
			places := everyPlace(len(base))
			places[at], places[other] = places[other], places[at]
			nodes := moved(base, places)
			checkPart(t, nodes, p, places[k], p.plainOk(nodes, places[k]))
			checkSecret(t, nodes, p.call(), nodes, places[k])
			if read[at] {
				checkPart(t, nodes, p, places[k], false)
			}
			checkPartsPlain(t, nodes, p)
		}
	}
	nodes := []impl.Node{atomNode(1000), atomNode(1001), atomNode(1002), atomNode(1), kdfNode(1, 3), atomNode(0), macNode(8, 9), atomNode(11), kdfNode(1, 7), hashNode(2), pairNode(6, 5), pairNode(5, 10), pairNode(5, 11), sealNode(4, 12)}
	checkSecret(t, nodes, clientPsk.call(), nodes, 13)
	checkOnePart(t, nodes, clientPsk, 13) // its mac stands ahead of what it has
}

// The nodes of parts and acks in drawn orders.
func TestP12DrawnOrders(t *testing.T) {
	draw := rand.New(rand.NewSource(21))
	acked, _ := mustWords(t, threeSecrets, ackCall(1, 11, 2))
	for range 1500 {
		p := fourParts[draw.Intn(4)]
		base, _ := mustPart(t, threeSecrets, p)
		if draw.Intn(4) == 0 {
			base = acked
		}
		places := drawPlaces(draw, len(base))
		nodes := moved(base, places)
		p.hand, p.said = places[p.hand], places[p.said]
		checkPartsPlain(t, nodes, p)
		checkPlain(t, nodes, p.call(), ackCall(p.hand, 11, p.said))
	}
}

// Of nodes that are there twice the first one is found: what is that is at its place alone; what is read may be of either.
func TestP12NodesTwice(t *testing.T) {
	for _, p := range fourParts {
		right, k := mustPart(t, threeSecrets, p)
		checkPart(t, slices.Concat(right, right[k:]), p, len(right), true) // the seal once more
		for at := 3; at < k; at++ {
			for _, twin := range []int{3, at} { // ahead of all that the part has, and right behind the first one
				nodes := slices.Insert(slices.Clone(right), twin, right[at])
				for i := range nodes {
					moveOn(&nodes[i], twin)
				}
				checkPartsPlain(t, nodes, p)
				checkPlain(t, nodes, p.call())
			}
		}
	}
	nodes := []impl.Node{atomNode(5000), atomNode(6000), atomNode(40), atomNode(40), kdfNode(0, 2), kdfNode(0, 3), atomNode(11), atomNode(11), hashNode(1), hashNode(1), atomNode(0), atomNode(0), pairNode(8, 11), pairNode(7, 12), sealNode(4, 13), sealNode(5, 13), pairNode(9, 10), pairNode(6, 16), sealNode(4, 17)}
	checkOneAck(t, nodes, 0, 1, 14, 11) // of the later key, or with the later TmHash, it is none
}

// What can be had of a part by who hears it: nothing of the hand secret, and with another's long secret no part of a name.
func TestP12WhoHearsAPart(t *testing.T) {
	for _, p := range fourParts {
		nodes, k := mustPart(t, threeSecrets, p)
		a := arenaOf(nodes...)
		parts, _ := plainParts(nodes, nodes[k].B, 3)
		known := []int{k, p.said}
		for _, place := range []int{p.hand, nodes[k].A, nodes[k].B, parts[2]} {
			if impl.Derives(a, known, place) {
				t.Errorf("who knows %v of %v has %d", known, nodes, place)
			}
		}
		if !impl.Derives(a, []int{nodes[k].A, k}, parts[2]) {
			t.Errorf("who knows the key of %v has not what is sealed", nodes)
		}
	}
	// Who has the hand secret, as the one at the other end of it has, makes no part of another name: neither its sign, nor a certificate of its own pub.
	base := certPartOf(t, clientCert)
	nodes, other := mustPart(t, base.nodes, partAsk{1, 1, 1, 3, 2})
	_, long := impl.LongSecret(arenaOf(nodes...), 3)
	known := []int{1, 2, long, other}
	m := makerOf(nodes)
	false4 := m.put(signNode(0, m.list(m.put(atomNode(60)), m.put(atomNode(4)), slices.Index(nodes, pubNode(long)))))
	part := m.put(sealNode(base.key, m.list(false4, slices.Index(nodes, signNode(long, base.signed)), base.done)))
	checkPart(t, m.nodes, clientCert, part, true) // as one would be that the secret of certificates had signed
	for place, can := range map[int]bool{other: true, base.part: false, base.sign: false, false4: false, part: false} {
		if impl.Derives(arenaOf(m.nodes...), known, place) != can {
			t.Errorf("who knows %v of %v has %d: %v", known, m.nodes, place, !can)
		}
	}
}

// drawPartNode is often one of those of which parts and acks are made.
func drawPartNode(draw *rand.Rand, k int) impl.Node {
	nums := []int{0, 0, 0, 1, 2, 11, 12, 40, 60, 81, 1000, 2004}
	kinds := []int{impl.TmKdf, impl.TmKdf, impl.TmMac, impl.TmSeal, impl.TmSeal, impl.TmSign, impl.TmPair, impl.TmPair, impl.TmPair}
	switch draw.Intn(8) {
	case 0:
		return drawNode(draw, k)
	case 1, 2:
		return atomNode(nums[draw.Intn(len(nums))])
	case 3:
		return hashNode(draw.Intn(k + 1))
	case 4:
		return pubNode(draw.Intn(k + 1))
	}
	return kindNode(kinds[draw.Intn(len(kinds))], draw.Intn(k+1), draw.Intn(k+1))
}

// Drawn arenas, many of them not right: every function answers as the plain way does.
func TestP12DrawnArenas(t *testing.T) {
	draw := rand.New(rand.NewSource(22))
	for range 1000 {
		nodes := drawNodes(draw, 14, drawPartNode)
		at := func() int { return draw.Intn(len(nodes)+3) - 1 }
		p := partAsk{draw.Intn(4), at(), draw.Intn(4), draw.Intn(12) - 1, at()}
		checkPartsPlain(t, nodes, p)
		checkPlain(t, nodes, p.call(), ackCall(at(), draw.Intn(42)-1, at()), handAsk{at(), at(), draw.Intn(4), draw.Intn(12) - 1, draw.Intn(12) - 1, at()}.call())
		for pub, n := range nodes {
			if n.Kind == impl.TmPub {
				checkPlain(t, nodes, handAsk{at(), pub, 1 + draw.Intn(2), draw.Intn(10), draw.Intn(10), at()}.call())
			}
		}
	}
}

// Parts and acks of which one node is drawn anew: each place answers as the plain way does.
func TestP12DrawnParts(t *testing.T) {
	draw := rand.New(rand.NewSource(23))
	for range 1000 {
		nodes := slices.Concat(threeSecrets, drawNodes(draw, 4, drawNode))
		p := fourParts[draw.Intn(4)]
		nodes, k := mustPart(t, nodes, p)
		nodes, ack := mustWords(t, nodes, ackCall(1, draw.Intn(20), 2))
		checkPart(t, nodes, p, k, true)
		checkPartsPlain(t, nodes, p)
		drawAnew(draw, nodes, 3+draw.Intn(len(nodes)-3), drawPartNode)
		for _, asked := range fourParts {
			checkPart(t, nodes, asked, k, asked.plainOk(nodes, k))
		}
		checkAck(t, nodes, 1, 2, ack, plainAckIn(nodes, 1, 2, ack))
		checkPartsPlain(t, nodes, p)
		checkPlain(t, nodes, p.call(), ackCall(1, 11, 2))
	}
}

func TestP12AnswersAreNewMemory(t *testing.T) {
	part, _ := mustPart(t, threeSecrets, clientCert)
	acked, _ := mustWords(t, threeSecrets, ackCall(1, 11, 2))
	for _, base := range [][]impl.Node{nil, threeSecrets, handParts, part[:9], part, acked} {
		checkNewMemory(t, base, partCalls(min(len(base), 5)))
		checkOnlyRead(t, base, func(a impl.Arena, k int) {
			for _, p := range fourParts {
				impl.PartOk(a, p.side, p.hand, p.mode, p.name, p.said, k)
			}
			impl.PartOk(a, 7, 0, 1, 3, 0, k)
			impl.AckIn(a, 1, 2, k)
			impl.AckIn(a, 0, 0, k)
		})
	}
}
