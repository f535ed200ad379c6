package tests

import (
	"fmt"
	"math"
	"math/rand"
	"slices"
	"testing"

	"loop.example/g00466/impl"
)

// sameGate holds gates against each other, list by list: an empty list and nil are the same.
func sameGate(g, h impl.Gate) bool {
	return g.Name == h.Name && g.Next == h.Next && g.Drops == h.Drops && slices.Equal(g.Sesss, h.Sesss) && slices.Equal(g.Pool, h.Pool) &&
		slices.Equal(g.Routes, h.Routes) && slices.Equal(g.Outs, h.Outs)
}

func gateCopy(g impl.Gate) impl.Gate {
	g.Sesss, g.Pool, g.Routes, g.Outs = slices.Clone(g.Sesss), slices.Clone(g.Pool), slices.Clone(g.Routes), slices.Clone(g.Outs)
	return g
}

// gateTold is what a function of the chapter answers: what came through is -1 and the code 0 where there is none.
type gateTold struct {
	nodes      []impl.Node
	gate       impl.Gate
	said       []impl.Mail
	came, code int
}

func (g gateTold) is(other gateTold) bool {
	return slices.Equal(g.nodes, other.nodes) && sameGate(g.gate, other.gate) && slices.Equal(g.said, other.said) && g.came == other.came && g.code == other.code
}

func (g gateTold) String() string {
	return fmt.Sprintf("%s of %d nodes, %+v, said %v, %d, code %d", brief(g.nodes), len(g.nodes), g.gate, g.said, g.came, g.code)
}

func mailOf(addr, term int) impl.Mail { return impl.Mail{Addr: addr, Term: term} }

// plainOpenOf is where the first open session with this Cid stands; -1 without one.
func plainOpenOf(g impl.Gate, cid int) int {
	for at, s := range g.Sesss {
		if s.State == 2 && s.Cid == cid {
			return at
		}
	}
	return -1
}

func plainGateOk(nodes []impl.Node, g impl.Gate) bool {
	cids, open := map[int]int{}, 0
	for _, s := range g.Sesss {
		cids[s.Cid]++
		if s.State == 2 {
			open++
		}
		if cids[s.Cid] > 1 || !isWithin(s.Cid, 1, g.Next-1) || !isWithin(s.State, 1, 2) || s.State == 2 && (!plainChanOk(nodes, s.Chan) || plainPlaceOf(g.Pool, s.Cid) == 0) {
			return false
		}
	}
	return isSomebody(g.Name) && isWithin(g.Next, 1, 9999) && len(g.Sesss) <= 3 && plainPoolOk(g.Pool) && len(g.Pool) == open && plainRoutesOk(g.Routes) && len(g.Outs) <= 50
}

func plainForward(nodes []impl.Node, g impl.Gate, cid int, p impl.Packet) gateTold {
	g = gateCopy(g)
	dropped := gateTold{nodes, g, nil, -1, 0}
	dropped.gate.Drops++
	place := plainPlaceOf(g.Pool, cid)
	if !plainPacketOk(p) || place == 0 || p.Src != place || p.Hops < 2 {
		return dropped
	}
	p.Hops--
	for _, l := range g.Pool {
		if l.Place != p.Dst {
			continue
		}
		at := plainOpenOf(g, l.Cid)
		if at < 0 {
			break
		}
		m := makerOf(nodes)
		own := m.put(atomNode(l.Cid))
		body := m.make(packetCall(p).plain)
		record := m.make(plainSay(g.Sesss[at].Chan, body))
		letter := m.make(letterWay(76, own, record))
		if m.failed {
			return dropped
		}
		g.Sesss[at].Chan.Seq++
		return gateTold{m.nodes, g, []impl.Mail{mailOf(g.Sesss[at].Addr, letter)}, -1, 0}
	}
	way := plainRouteOf(g.Routes, p.Dst)
	if !way.ok || len(g.Outs) >= 50 {
		return dropped
	}
	g.Outs = append(g.Outs, impl.Out{Route: way.route.To, Packet: p})
	return gateTold{nodes, g, nil, -1, 0}
}

// plainHello is what a gate does with a hello; false when that is nothing.
func plainHello(nodes []impl.Node, g impl.Gate, addr, hello, cookie, draw, now int) (gateTold, bool) {
	h := plainHelloIn(nodes, hello)
	if !h.ok {
		return gateTold{}, false
	}
	for at, s := range g.Sesss {
		if s.Addr == addr && s.Hello == hello {
			g.Sesss[at].Heard = now
			return gateTold{nodes, g, []impl.Mail{mailOf(addr, s.Last)}, -1, 0}, s.State == 1
		}
	}
	m := makerOf(nodes)
	if at := plainCookieAt(nodes, 9000, addr, hello); at < 0 || at != cookie {
		retry := m.make(letterWay(72, m.make(func(nodes []impl.Node) ([]impl.Node, int) { return plainCookie(nodes, 9000, addr, hello) })))
		return gateTold{m.nodes, g, []impl.Mail{mailOf(addr, retry)}, -1, 0}, !m.failed
	}
	if len(g.Sesss) > 2 || !isWithin(draw, 1000, 900000) || g.Next > 9998 {
		return gateTold{}, false
	}
	nonce := m.put(atomNode(draw + 1))
	secret := m.put(atomNode(draw))
	words := m.make(serverCall(nonce, m.put(pubNode(secret))).plain)
	both := m.put(pairNode(hello, words))
	hand := m.make(handAsk{secret, h.hello.Pub, h.hello.Mode, h.hello.Name, g.Name, both}.plain)
	part := m.make(partAsk{2, hand, h.hello.Mode, g.Name, both}.plain)
	letter := m.make(letterWay(73, words, part))
	said := m.put(pairNode(both, part))
	g.Sesss = append(g.Sesss, impl.Sess{Cid: g.Next, Addr: addr, State: 1, Name: h.hello.Name, Mode: h.hello.Mode, Hello: hello, Said: said, Hand: hand, Last: letter, Heard: now})
	g.Next++
	return gateTold{m.nodes, g, []impl.Mail{mailOf(addr, letter)}, -1, 0}, !m.failed
}

func plainClientPart(nodes []impl.Node, g impl.Gate, addr, part, now int) (gateTold, bool) {
	for at, s := range g.Sesss {
		if s.Addr == addr && s.State == 2 && s.Part == part {
			g.Sesss[at].Heard = now
			return gateTold{nodes, g, []impl.Mail{mailOf(addr, s.Last)}, -1, 0}, true
		}
		if s.Addr != addr || s.State != 1 || !(partAsk{1, s.Hand, s.Mode, s.Name, s.Said}).plainOk(nodes, part) {
			continue
		}
		leased := plainLeased(g.Pool, s.Cid)
		m := makerOf(nodes)
		said := m.put(pairNode(s.Said, part))
		letter := m.make(letterWay(75, m.make(ackCall(s.Hand, leased.place, said).plain)))
		app := m.make(func(nodes []impl.Node) ([]impl.Node, int) { return plainApp(nodes, s.Hand, said) })
		g.Pool = leased.list
		s.State, s.Part, s.Said, s.Last, s.Chan, s.Heard = 2, part, said, letter, endAt(app, 2), now
		g.Sesss[at] = s
		return gateTold{m.nodes, g, []impl.Mail{mailOf(addr, letter)}, -1, 0}, leased.ok && !m.failed
	}
	return gateTold{}, false
}

func plainGateRecord(nodes []impl.Node, g impl.Gate, addr, cid, record, now int) (gateTold, bool) {
	at := plainOpenOf(g, cid)
	if at < 0 {
		return gateTold{}, false
	}
	s := &g.Sesss[at]
	heard := plainHear(nodes, s.Chan, record)
	if heard.code != 0 {
		return gateTold{}, false
	}
	if plainNewer(nodes, s.Chan, record) {
		s.Addr = addr
	}
	s.Chan, s.Heard = heard.end, now
	told := gateTold{nodes, g, nil, -1, 0}
	if p := plainPacketIn(nodes, heard.body); p.ok {
		told = plainForward(nodes, g, cid, p.packet)
	} else {
		told.gate.Drops++
	}
	told.came = heard.body
	return told, true
}

func plainHearGate(nodes []impl.Node, g impl.Gate, m impl.Mail, draw, now int) gateTold {
	letter := plainLetterIn(nodes, m.Term)
	var told gateTold
	var ok bool
	switch letter.kind {
	case 71:
		told, ok = plainHello(nodes, gateCopy(g), m.Addr, letter.parts[0], letter.parts[1], draw, now)
	case 74:
		told, ok = plainClientPart(nodes, gateCopy(g), m.Addr, letter.parts[0], now)
	case 76:
		cid, _ := plainNum(nodes, letter.parts[0])
		told, ok = plainGateRecord(nodes, gateCopy(g), m.Addr, cid, letter.parts[1], now)
	}
	if !ok {
		return gateTold{nodes, g, nil, -1, 1}
	}
	return told
}

func plainTurnGate(g impl.Gate, cid int) (impl.Gate, bool) {
	at := plainOpenOf(g, cid)
	if at < 0 {
		return g, false
	}
	c := g.Sesss[at].Chan
	if c.Epoch < 0 || c.Epoch > 7 || c.Epoch > c.Heard {
		return g, false
	}
	g = gateCopy(g)
	g.Sesss[at].Chan.Epoch, g.Sesss[at].Chan.Seq = c.Epoch+1, 0
	return g, true
}

// plainIdle asks for each of the 21 times at which a session stays, so that no sum or difference can pass the end of an int.
func plainIdle(g impl.Gate, now int) impl.Gate {
	g = gateCopy(g)
	var stay []impl.Sess
	for _, s := range g.Sesss {
		late := 0
		for at := s.Heard; at < now && late <= 20; at++ {
			late++
		}
		if late <= 20 {
			stay = append(stay, s)
		} else {
			g.Pool = plainGiven(g.Pool, s.Cid)
		}
	}
	g.Sesss = stay
	return g
}

func hearGate(nodes []impl.Node, g impl.Gate, m impl.Mail, draw, now int) gateTold {
	a, g, said, came, code := impl.HearGate(arenaOf(nodes...), g, m, draw, now)
	return gateTold{a.Nodes, g, said, came, code}
}

func forwardGate(nodes []impl.Node, g impl.Gate, cid int, p impl.Packet) gateTold {
	a, g, said := impl.ForwardGate(arenaOf(nodes...), g, cid, p)
	return gateTold{a.Nodes, g, said, -1, 0}
}

func checkHearGate(t *testing.T, nodes []impl.Node, g impl.Gate, m impl.Mail, draw, now int, want gateTold) {
	t.Helper()
	if got := hearGate(nodes, g, m, draw, now); !got.is(want) {
		t.Fatalf("HearGate(%s of %d nodes, %+v, %v, %d, %d) = %v; want %v", brief(nodes), len(nodes), g, m, draw, now, got, want)
	}
}

// checkGateHears holds what a gate does with a mail against the plain way, and answers it.
func checkGateHears(t *testing.T, nodes []impl.Node, g impl.Gate, m impl.Mail, draw, now int) gateTold {
	t.Helper()
	want := plainHearGate(nodes, g, m, draw, now)
	checkHearGate(t, nodes, g, m, draw, now, want)
	return want
}

// checkGateIgnores asks for the code 1, and all as it is.
func checkGateIgnores(t *testing.T, nodes []impl.Node, g impl.Gate, mails ...impl.Mail) {
	t.Helper()
	for _, m := range mails {
		checkHearGate(t, nodes, g, m, 70000, 50, gateTold{nodes, g, nil, -1, 1})
	}
}

func checkForward(t *testing.T, nodes []impl.Node, g impl.Gate, cid int, p impl.Packet, want gateTold) {
	t.Helper()
	if got := forwardGate(nodes, g, cid, p); !got.is(want) {
		t.Fatalf("ForwardGate(%s of %d nodes, %+v, %d, %v) = %v; want %v", brief(nodes), len(nodes), g, cid, p, got, want)
	}
}

func checkForwardPlain(t *testing.T, nodes []impl.Node, g impl.Gate, cid int, p impl.Packet) gateTold {
	t.Helper()
	want := plainForward(nodes, g, cid, p)
	checkForward(t, nodes, g, cid, p, want)
	return want
}

// checkFalls asks for one drop more, and nothing else.
func checkFalls(t *testing.T, nodes []impl.Node, g impl.Gate, cid int, p impl.Packet) {
	t.Helper()
	want := gateTold{nodes, gateCopy(g), nil, -1, 0}
	want.gate.Drops++
	checkForward(t, nodes, g, cid, p, want)
}

func checkGateOk(t *testing.T, nodes []impl.Node, g impl.Gate, want bool) {
	t.Helper()
	if got := impl.GateOk(arenaOf(nodes...), g); got != want || plainGateOk(nodes, g) != want {
		t.Fatalf("GateOk(%s of %d nodes, %+v) = %v; want %v", brief(nodes), len(nodes), g, got, want)
	}
}

func checkIdle(t *testing.T, g impl.Gate, now int, want impl.Gate) {
	t.Helper()
	if got := impl.IdleGate(g, now); !sameGate(got, want) {
		t.Fatalf("IdleGate(%+v, %d) = %+v; want %+v", g, now, got, want)
	}
}

func checkTurnGate(t *testing.T, g impl.Gate, cid int, want impl.Gate, wantOk bool) {
	t.Helper()
	if got, ok := impl.TurnGate(g, cid); ok != wantOk || !sameGate(got, want) {
		t.Fatalf("TurnGate(%+v, %d) = %+v, %v; want %+v, %v", g, cid, got, ok, want, wantOk)
	}
}

// A yard is a gate, and clients who are away from it: the one at i is named i and 1, and is at the address i and 1.
type yard struct {
	t       *testing.T
	nodes   []impl.Node
	gate    impl.Gate
	clients []impl.Client
	draw    int
	now     int
}

func yardOf(t *testing.T, mode, clients int, routes ...impl.Route) *yard {
	y := &yard{t: t, nodes: threeSecrets, gate: impl.GateNew(9, routes), draw: 30000}
	for i := range clients {
		y.clients = append(y.clients, impl.ClientNew(i+1, 9, mode))
	}
	return y
}

// put makes a node, or one that is there.
func (y *yard) put(n impl.Node) int {
	y.t.Helper()
	nodes, k := plainPut(y.nodes, n)
	if k < 0 {
		y.t.Fatalf("%v can't be put", n)
	}
	y.nodes = nodes
	return k
}

func (y *yard) make(c secretCall) int {
	y.t.Helper()
	var k int
	y.nodes, k = mustWords(y.t, y.nodes, c)
	return k
}

// hear has the gate hear a letter as the plain way does, each time with a draw of its own.
func (y *yard) hear(addr, term int) gateTold {
	y.t.Helper()
	y.draw += 10
	told := checkGateHears(y.t, y.nodes, y.gate, mailOf(addr, term), y.draw, y.now)
	y.nodes, y.gate = told.nodes, told.gate
	return told
}

// says is what the gate says to a letter with which it does something: one letter, to this address.
func (y *yard) says(addr, term int) int {
	y.t.Helper()
	told := y.hear(addr, term)
	if told.code != 0 || len(told.said) != 1 || told.said[0].Addr != addr {
		y.t.Fatalf("to a letter from %d the gate says %v, code %d", addr, told.said, told.code)
	}
	return told.said[0].Term
}

func (y *yard) client(i int, call clientCall) int {
	y.t.Helper()
	told := mustClient(y.t, y.nodes, y.clients[i], call)
	y.nodes, y.clients[i] = told.nodes, told.client
	return told.said
}

// hello is the first word of the client at i.
func (y *yard) hello(i int) int {
	y.t.Helper()
	y.draw += 10
	return y.client(i, startCall(y.draw, y.now))
}

// toWho is the letter with the part of the client at i, which came so far.
func (y *yard) toWho(i int) int {
	y.t.Helper()
	again := y.client(i, hearCall(y.says(i+1, y.hello(i)), y.now))
	return y.client(i, hearCall(y.says(i+1, again), y.now))
}

func (y *yard) open(i int) {
	y.t.Helper()
	y.client(i, hearCall(y.says(i+1, y.toWho(i)), y.now))
	if y.clients[i].State != impl.ClOpen {
		y.t.Fatalf("the client is %+v", y.clients[i])
	}
}

// record is a letter in which the client at i says a body on its channel.
func (y *yard) record(i, cid, body int) int {
	y.t.Helper()
	return y.client(i, recordSaid(cid, body))
}

func (y *yard) packet(i, cid int, p impl.Packet) int {
	y.t.Helper()
	return y.record(i, cid, y.make(packetCall(p)))
}

func (y *yard) isRight() {
	y.t.Helper()
	checkGateOk(y.t, y.nodes, y.gate, true)
	if !plainArenaOk(y.nodes) {
		y.t.Fatalf("the arena is not right: %s", brief(y.nodes))
	}
}

// openYard is a gate with these clients open, at the places 10 and up.
func openYard(t *testing.T, mode, clients int, routes ...impl.Route) *yard {
	t.Helper()
	y := yardOf(t, mode, clients, routes...)
	for i := range clients {
		y.open(i)
	}
	y.isRight()
	return y
}

func TestP17Constants(t *testing.T) {
	got := []int{impl.GtHalf, impl.GtOpen, impl.MaxSess, impl.GateSecret, impl.MaxOuts}
	if want := []int{1, 2, 3, 9000, 50}; !slices.Equal(got, want) {
		t.Errorf("constants of a gate are %v; want %v", got, want)
	}
}

func TestP17NewGates(t *testing.T) {
	routes := []impl.Route{routeOf(16, 4, 2), routeOf(0, 0, 1)}
	for _, name := range []int{0, 9, 10, -1, math.MinInt, math.MaxInt} {
		for _, list := range [][]impl.Route{nil, {}, routes, slices.Repeat(routes, 20)} {
			if got := impl.GateNew(name, list); !sameGate(got, impl.Gate{Name: name, Next: 1, Routes: list}) {
				t.Errorf("GateNew(%d, %v) = %+v", name, list, got)
			}
		}
	}
	got := impl.GateNew(9, routes)
	got.Routes[0].To = 7
	_ = append(got.Routes[:1], routeOf(1, 8, 1))
	if routes[0].To != 2 || routes[1].To != 1 {
		t.Errorf("a new gate shares its ways: %v", routes)
	}
	checkGateOk(t, nil, impl.GateNew(9, routes), true)
}

// From a hello without a cookie to an open session, as the gate and its client tell it.
func TestP17ComesToAnOpenSession(t *testing.T) {
	for _, mode := range bothModes {
		y := yardOf(t, mode, 1)
		y.now = 5
		first := y.hello(0)
		before := y.gate
		retry := y.says(1, first)
		if !sameGate(y.gate, before) || !sameGate(y.gate, impl.GateNew(9, nil)) {
			t.Fatalf("without a cookie the gate keeps %+v", y.gate)
		}
		hello := y.clients[0].Hello
		cookie := plainCookieAt(y.nodes, 9000, 1, hello)
		checkLetterIn(t, y.nodes, retry, letterTold{72, []int{cookie}})
		again := y.client(0, hearCall(retry, 5))
		y.now = 6
		server := y.says(1, again)
		letter := plainLetterIn(y.nodes, server)
		half := y.gate.Sesss[0]
		want := impl.Sess{Cid: 1, Addr: 1, State: impl.GtHalf, Name: 1, Mode: mode, Hello: hello, Said: half.Said, Hand: half.Hand, Last: server, Heard: 6}
		if half != want || y.gate.Next != 2 || len(y.gate.Sesss) != 1 || letter.kind != 73 || len(y.gate.Pool) != 0 {
			t.Fatalf("half open the gate is %+v; want the session %+v", y.gate, want)
		}
		if y.nodes[half.Said].B != letter.parts[1] || y.nodes[y.nodes[half.Said].A] != pairNode(hello, letter.parts[0]) {
			t.Fatalf("said is %v", y.nodes[half.Said])
		}
		y.isRight()
		who := y.client(0, hearCall(server, 7))
		if y.clients[0].State != impl.ClWho || y.clients[0].Hand != half.Hand {
			t.Fatalf("the client is %+v", y.clients[0])
		}
		y.now = 8
		ack := y.says(1, who)
		open := y.gate.Sesss[0]
		want.State, want.Part, want.Said, want.Last, want.Chan, want.Heard = impl.GtOpen, plainLetterIn(y.nodes, who).parts[0], y.clients[0].Said, ack, endAt(open.Chan.App, impl.SideServer), 8
		if open != want || !slices.Equal(y.gate.Pool, leasesOf(10, 1)) || y.gate.Next != 2 {
			t.Fatalf("open the gate is %+v; want the session %+v", y.gate, want)
		}
		y.isRight()
		y.client(0, hearCall(ack, 9))
		if c := y.clients[0]; c.State != impl.ClOpen || c.Lease != 10 || c.Chan != endAt(open.Chan.App, impl.SideClient) {
			t.Fatalf("the client is %+v", c)
		}
	}
}

// What the gate makes, node by node, in the order in which it is told.
func TestP17NodeByNode(t *testing.T) {
	y := yardOf(t, impl.MdPsk, 1)
	first := y.hello(0)
	hello := y.clients[0].Hello
	end := len(y.nodes)
	zero := slices.Index(y.nodes, atomNode(0))
	brought := func(what string, want ...impl.Node) {
		t.Helper()
		if !slices.Equal(y.nodes[end:], want) {
			t.Fatalf("%s brings %v; want %v", what, y.nodes[end:], want)
		}
	}
	retry := y.says(1, first)
	one := slices.Index(y.nodes, atomNode(1))
	if one > end {
		t.Fatalf("Atom 1 is not there yet")
	}
	brought("a retry", atomNode(9000), hashNode(hello), pairNode(end+1, zero), pairNode(one, end+2), macNode(end, end+3), atomNode(72), pairNode(end+4, zero), pairNode(end+5, end+6))
	again := y.client(0, hearCall(retry, 0))
	end = len(y.nodes)
	server := y.says(1, again)
	draw, two := y.draw, slices.Index(y.nodes, atomNode(2))
	brought("a half open session", atomNode(draw+1), atomNode(draw), pubNode(end+1), atomNode(62), pairNode(end+2, zero), pairNode(end, end+4), pairNode(end+3, end+5), pairNode(hello, end+6),
		dhNode(y.nodes[y.helloPub(hello)].A, end+1), atomNode(3019), pairNode(end+8, end+9), hashNode(end+7), kdfNode(end+10, end+11),
		kdfNode(end+12, two), atomNode(12), kdfNode(end+12, end+14), macNode(end+15, end+11), pairNode(end+16, zero), pairNode(zero, end+17), pairNode(zero, end+18), sealNode(end+13, end+19),
		atomNode(73), pairNode(end+20, zero), pairNode(end+6, end+22), pairNode(end+21, end+23), pairNode(end+7, end+20))
	hand, said := end+12, end+25
	who := y.client(0, hearCall(server, 0))
	part := plainLetterIn(y.nodes, who).parts[0]
	all := y.clients[0].Said
	end = len(y.nodes)
	y.says(1, who)
	if y.nodes[all] != pairNode(said, part) {
		t.Fatalf("all that was said is %v", y.nodes[all])
	}
	brought("an open session", atomNode(40), kdfNode(hand, end), atomNode(10), hashNode(all), pairNode(end+3, zero), pairNode(end+2, end+4), sealNode(end+1, end+5),
		atomNode(75), pairNode(end+6, zero), pairNode(end+7, end+8), atomNode(20), kdfNode(hand, end+10), kdfNode(end+11, end+3))
	// A packet that goes on: the Cid, the packet, the record, the letter.
	app := end + 12
	end = len(y.nodes)
	told := checkForwardPlain(t, y.nodes, y.gate, 1, packetOf(10, 10, 2, 7))
	y.nodes = told.nodes
	at := func(n int) int { return slices.Index(y.nodes, atomNode(n)) }
	if at(10) > end || at(1) > end || at(0) > end || at(2) > end {
		t.Fatalf("not all small Atoms are there")
	}
	brought("a packet", atomNode(90), atomNode(7), atomNode(28), pairNode(end+2, zero), pairNode(end+1, end+3), pairNode(one, end+4), pairNode(at(10), end+5), pairNode(at(10), end+6), pairNode(end, end+7),
		kdfNode(app, two), pairNode(end+8, zero), pairNode(zero, end+10), pairNode(zero, end+11), sealNode(end+9, end+12), pairNode(end+13, zero), pairNode(zero, end+14), pairNode(zero, end+15),
		atomNode(76), pairNode(end+16, zero), pairNode(one, end+18), pairNode(end+17, end+19))
	if !slices.Equal(told.said, []impl.Mail{mailOf(1, end+20)}) {
		t.Errorf("said is %v", told.said)
	}
}

func (y *yard) helloPub(hello int) int { return plainHelloIn(y.nodes, hello).hello.Pub }

// The Atom of the Cid comes ahead of all that the packet and its record bring.
func TestP17CidIsMadeFirst(t *testing.T) {
	app := endAt(0, impl.SideServer)
	g := impl.Gate{Name: 9, Next: 8, Sesss: []impl.Sess{{Cid: 7, Addr: 4, State: impl.GtOpen, Chan: app}}, Pool: leasesOf(11, 7)}
	told := checkForwardPlain(t, threeSecrets, g, 7, packetOf(11, 11, 5, 6))
	if want := []impl.Node{atomNode(7), atomNode(90), atomNode(11), atomNode(4), atomNode(6), atomNode(32), atomNode(0)}; !slices.Equal(told.nodes[3:10], want) {
		t.Errorf("a packet brings %v; want first %v", told.nodes[3:], want)
	}
	kind, parts := impl.LetterIn(arenaOf(told.nodes...), told.said[0].Term)
	if kind != impl.LtRecord || told.nodes[parts[0]] != atomNode(7) || told.said[0].Addr != 4 || told.gate.Sesss[0].Chan.Seq != 1 {
		t.Errorf("said is %v in %v", told.said, told.nodes)
	}
}

// Nothing is kept of who has no cookie, however many ask: other cookies, those of another address, of another hello, or of another secret.
func TestP17WithoutACookie(t *testing.T) {
	y := yardOf(t, impl.MdCert, 2)
	y.hello(0)
	y.hello(1)
	first, second := y.clients[0].Hello, y.clients[1].Hello
	cookie := y.make(cookieCall(9000, 1, first))
	others := []int{0, 1, first, second, y.make(cookieCall(9000, 2, first)), y.make(cookieCall(9000, 1, second)), y.make(cookieCall(9001, 1, first)), y.make(cookieCall(1000, 1, first)), y.put(macNode(cookie, cookie)), y.put(atomNode(0))}
	for _, other := range others {
		letter := y.make(letterCall(71, first, other))
		before := y.gate
		retry := y.says(1, letter)
		checkLetterIn(t, y.nodes, retry, letterTold{72, []int{cookie}})
		if !sameGate(y.gate, before) || len(y.gate.Sesss) != 0 || y.gate.Next != 1 {
			t.Fatalf("with the cookie %d the gate keeps %+v", other, y.gate)
		}
	}
	// The right one, from another address, is answered with that address's own.
	letter := y.make(letterCall(71, first, cookie))
	for _, addr := range []int{0, 2, 3, 99, 999999} {
		told := y.hear(addr, letter)
		if told.code != 0 || len(told.said) != 1 || told.said[0].Addr != addr || len(told.gate.Sesss) != 0 {
			t.Fatalf("from %d the gate says %v and is %+v", addr, told.said, told.gate)
		}
		checkLetterIn(t, y.nodes, told.said[0].Term, letterTold{72, []int{plainCookieAt(y.nodes, 9000, addr, first)}})
	}
	for _, addr := range []int{-1, 1000000, math.MinInt, math.MaxInt} { // no Atom tells such an address
		checkGateIgnores(t, y.nodes, y.gate, mailOf(addr, letter))
	}
	if half := y.hear(1, letter); len(half.gate.Sesss) != 1 {
		t.Fatalf("with its cookie the gate is %+v", half.gate)
	}
	// A hello that is none.
	for _, none := range []int{0, cookie, letter, y.make(helloOf(3, 1, y.put(atomNode(7000)), y.helloPub(first))), y.make(helloOf(1, 10, y.put(atomNode(7000)), y.helloPub(first))), y.make(helloOf(1, 1, y.put(atomNode(999)), y.helloPub(first)))} {
		checkGateIgnores(t, y.nodes, y.gate, mailOf(1, y.make(letterCall(71, none, cookie))), mailOf(1, y.make(letterCall(71, none, 0))))
	}
}

// With their cookies as many come in as there may be sessions, each with a Cid, a draw and an address of its own; one more waits.
func TestP17AsManyAsThereMayBe(t *testing.T) {
	y := yardOf(t, impl.MdPsk, 4)
	var letters []int
	for i := range 4 {
		y.hello(i)
		letters = append(letters, y.make(letterCall(71, y.clients[i].Hello, y.make(cookieCall(9000, i+1, y.clients[i].Hello)))))
	}
	for i := range 3 {
		y.now = 10 + i
		y.says(i+1, letters[i])
		s := y.gate.Sesss[i]
		if s.Cid != i+1 || s.Addr != i+1 || s.Name != i+1 || s.Heard != 10+i || y.gate.Next != i+2 {
			t.Fatalf("the gate is %+v", y.gate)
		}
		y.isRight()
	}
	checkGateIgnores(t, y.nodes, y.gate, mailOf(4, letters[3]))
	told := y.hear(4, y.make(letterCall(71, y.clients[3].Hello, 0))) // told to come again all the same
	if told.code != 0 || len(told.gate.Sesss) != 3 {
		t.Fatalf("without a cookie it is told %v, code %d", told.said, told.code)
	}
	// Once one is let go there is room.
	y.now = 31
	y.gate = impl.IdleGate(y.gate, y.now)
	if len(y.gate.Sesss) != 2 {
		t.Fatalf("the gate is %+v", y.gate)
	}
	y.says(4, letters[3])
	if s := y.gate.Sesss[2]; s.Cid != 4 || y.gate.Next != 5 || impl.SessAt(y.gate, 4) != 2 || impl.SessAt(y.gate, 1) != -1 {
		t.Fatalf("the gate is %+v", y.gate)
	}
}

func TestP17DrawAndNext(t *testing.T) {
	y := yardOf(t, impl.MdCert, 1)
	y.hello(0)
	letter := y.make(letterCall(71, y.clients[0].Hello, y.make(cookieCall(9000, 1, y.clients[0].Hello))))
	m := mailOf(1, letter)
	for _, draw := range []int{1000, 1001, 899999, 900000} {
		if told := checkGateHears(t, y.nodes, y.gate, m, draw, 5); told.code != 0 || !slices.Contains(told.nodes, atomNode(draw+1)) {
			t.Fatalf("with the draw %d the code is %d", draw, told.code)
		}
	}
	for _, draw := range []int{999, 0, -1, 900001, 999999, math.MinInt, math.MaxInt, 1<<32 + 5000} {
		checkHearGate(t, y.nodes, y.gate, m, draw, 5, gateTold{y.nodes, y.gate, nil, -1, 1})
		// What asks for no draw is done with any.
		if told := checkGateHears(t, y.nodes, y.gate, mailOf(2, letter), draw, 5); told.code != 0 {
			t.Fatalf("a retry with the draw %d has the code %d", draw, told.code)
		}
	}
	for _, next := range []int{1, 2, 9997, 9998, 0, -5, math.MinInt} {
		g := y.gate
		g.Next = next
		told := checkGateHears(t, y.nodes, g, m, 5000, 5)
		if told.code != 0 || told.gate.Sesss[0].Cid != next || told.gate.Next != next+1 {
			t.Fatalf("with Next %d the gate is %+v", next, told.gate)
		}
	}
	for _, next := range []int{9999, 10000, math.MaxInt} {
		g := y.gate
		g.Next = next
		checkGateIgnores(t, y.nodes, g, m)
	}
	for _, now := range []int{0, -1, 99999, 100000, math.MinInt, math.MaxInt} {
		if told := checkGateHears(t, y.nodes, y.gate, m, 5000, now); told.gate.Sesss[0].Heard != now {
			t.Fatalf("at %d the gate is %+v", now, told.gate)
		}
	}
	for _, name := range []int{-1, 10, math.MaxInt} { // nobody, and so nobody's certificate
		g := y.gate
		g.Name = name
		checkGateIgnores(t, y.nodes, g, m)
	}
}

// A hello that comes again: half open, its Last again; open, nothing. From another address it is another one's.
func TestP17HelloAgain(t *testing.T) {
	for _, mode := range bothModes {
		y := yardOf(t, mode, 1)
		y.hello(0)
		hello := y.clients[0].Hello
		cookie := y.make(cookieCall(9000, 1, hello))
		with, without := y.make(letterCall(71, hello, cookie)), y.make(letterCall(71, hello, 0))
		y.now = 3
		server := y.says(1, with)
		for i, letter := range []int{with, without, y.make(letterCall(71, hello, hello))} {
			y.now = 10 + i
			before := y.gate
			if again := y.says(1, letter); again != server {
				t.Fatalf("again it says %d; want %d", again, server)
			}
			before = gateCopy(before)
			before.Sesss[0].Heard = y.now
			if !sameGate(before, y.gate) {
				t.Fatalf("again the gate is %+v; want %+v", y.gate, before)
			}
		}
		ack := y.says(1, y.client(0, hearCall(server, 12)))
		checkGateIgnores(t, y.nodes, y.gate, mailOf(1, with), mailOf(1, without))
		if told := y.hear(2, with); told.code != 0 || len(told.gate.Sesss) != 1 {
			t.Fatalf("from another address it is told %v, and the gate is %+v", told.said, told.gate)
		}
		if plainLetterIn(y.nodes, ack).kind != 75 {
			t.Fatalf("the ack is %d", ack)
		}
		// Of two sessions with one Hello and Addr (which no right life makes) the first one counts.
		two := gateCopy(y.gate)
		two.Sesss = append(two.Sesss, two.Sesss[0])
		two.Sesss[1].State = impl.GtHalf
		checkGateIgnores(t, y.nodes, two, mailOf(1, with))
		two.Sesss[0].State, two.Sesss[1].State, two.Sesss[1].Last = impl.GtHalf, impl.GtOpen, 0
		checkHearGate(t, y.nodes, two, mailOf(1, with), 5000, two.Sesss[0].Heard, gateTold{y.nodes, two, []impl.Mail{mailOf(1, ack)}, -1, 0})
	}
}

// The client's part once more: the same ack, and nothing is opened anew. Another part, from another address, of another one: nothing.
func TestP17PartAgain(t *testing.T) {
	for _, mode := range bothModes {
		y := yardOf(t, mode, 2)
		who, other := y.toWho(0), y.toWho(1)
		checkGateIgnores(t, y.nodes, y.gate, mailOf(2, who), mailOf(1, other), mailOf(3, who))
		half := y.gate.Sesss[0]
		for _, p := range []partAsk{{2, half.Hand, mode, 1, half.Said}, {2, half.Hand, mode, 9, half.Said}, {1, half.Hand, 3 - mode, 1, half.Said}, {1, half.Hand, mode, 1, half.Hello}, {1, half.Hello, mode, 1, half.Said}, {1, half.Hand, impl.MdCert, 2, half.Said}} {
			checkGateIgnores(t, y.nodes, y.gate, mailOf(1, y.make(letterCall(74, y.make(p.call())))))
		}
		checkGateIgnores(t, y.nodes, y.gate, mailOf(1, y.make(letterCall(74, 0))), mailOf(1, y.make(letterCall(74, who))))
		y.now = 4
		ack := y.says(1, who)
		y.now = 9
		before := gateCopy(y.gate)
		before.Sesss[0].Heard = 9
		if again := y.says(1, who); again != ack || !sameGate(before, y.gate) {
			t.Fatalf("again it says %d, and the gate is %+v; want %d, %+v", again, y.gate, ack, before)
		}
		checkGateIgnores(t, y.nodes, y.gate, mailOf(2, who), mailOf(9, who))
		y.isRight()
	}
}

// Places: the least one that nobody has; where there is none, or the pool is not right, nothing opens.
func TestP17PlacesOfThoseWhoOpen(t *testing.T) {
	y := yardOf(t, impl.MdPsk, 1)
	who := y.toWho(0)
	for _, c := range []struct {
		pool  []impl.Lease
		place int
	}{{nil, 10}, {leasesOf(10, 5), 11}, {leasesOf(11, 5), 10}, {leasesOf(10, 5, 11, 6), 12}, {leasesOf(10, 5, 12, 6), 11}, {leasesOf(12, 1), 12}, {leasesOf(10, 3, 11, 1), 11}} {
		g := gateCopy(y.gate)
		g.Pool = c.pool
		told := checkGateHears(t, y.nodes, g, mailOf(1, who), 5000, 5)
		s := told.gate.Sesss[0]
		ack := plainLetterIn(told.nodes, s.Last)
		if lease := plainAckIn(told.nodes, s.Hand, s.Said, ack.parts[0]); told.code != 0 || !lease.ok || lease.lease != c.place || plainPlaceOf(told.gate.Pool, 1) != c.place {
			t.Fatalf("with %v the gate is %+v, code %d", c.pool, told.gate, told.code)
		}
	}
	for _, pool := range [][]impl.Lease{leasesOf(10, 5, 11, 6, 12, 7), leasesOf(9, 5), leasesOf(13, 1), leasesOf(11, 5, 10, 6), leasesOf(10, 5, 11, 5), leasesOf(10, 1, 10, 2)} {
		g := gateCopy(y.gate)
		g.Pool = pool
		checkGateIgnores(t, y.nodes, g, mailOf(1, who))
	}
	// The first session of that address whose part it is opens, though another one like it stands behind.
	twins := gateCopy(y.gate)
	twins.Sesss = append(twins.Sesss, twins.Sesss[0])
	twins.Sesss[1].Cid = 2
	if told := checkGateHears(t, y.nodes, twins, mailOf(1, who), 5000, 5); told.gate.Sesss[0].State != impl.GtOpen || told.gate.Sesss[1].State != impl.GtHalf {
		t.Fatalf("of twins the gate is %+v", told.gate)
	}
	// Where that one gets no place, the other one is not looked at.
	twins.Pool = leasesOf(10, 2, 11, 3, 12, 4)
	checkGateIgnores(t, y.nodes, twins, mailOf(1, who))
}

// Who is let through is in its own place: what comes from it goes to another open session, by a way behind Outs, or falls.
func TestP17Packets(t *testing.T) {
	for _, mode := range bothModes {
		y := openYard(t, mode, 3, routeOf(0, 0, 1), routeOf(16, 4, 2), routeOf(20, 8, 3))
		for i, c := range []struct {
			p    impl.Packet
			out  int // by a way, or -1
			to   int // the address of an open session, or 0
			from int
		}{
			{packetOf(10, 11, 3, 7), -1, 2, 0}, {packetOf(10, 12, 2, 8), -1, 3, 0}, {packetOf(10, 10, 9, 9), -1, 1, 0}, {packetOf(11, 10, 2, 0), -1, 1, 1}, {packetOf(12, 11, 2, 999), -1, 2, 2},
			{packetOf(10, 20, 3, 7), 3, 0, 0}, {packetOf(10, 21, 3, 7), 2, 0, 0}, {packetOf(11, 200, 3, 7), 1, 0, 1}, {packetOf(12, 13, 2, 7), 1, 0, 2}, {packetOf(10, 9, 2, 7), 1, 0, 0},
			{packetOf(11, 10, 3, 7), -1, 0, 0}, {packetOf(10, 11, 1, 7), -1, 0, 0}, {packetOf(10, 20, 1, 7), -1, 0, 0}, {packetOf(13, 20, 3, 7), -1, 0, 0}, {packetOf(0, 20, 3, 7), -1, 0, 1}, {packetOf(20, 10, 3, 7), -1, 0, 2},
		} {
			y.now = 100 + i
			before := y.gate
			letter := y.packet(c.from, c.from+1, c.p)
			body := y.make(packetCall(c.p))
			told := y.hear(c.from+1, letter)
			next := c.p
			next.Hops--
			if told.code != 0 || told.came != body || told.gate.Sesss[c.from].Heard != y.now {
				t.Fatalf("of %v came %d, code %d, and the gate is %+v", c.p, told.came, told.code, told.gate)
			}
			switch {
			case c.to > 0:
				if len(told.said) != 1 || told.said[0].Addr != c.to || told.gate.Drops != before.Drops || len(told.gate.Outs) != len(before.Outs) {
					t.Fatalf("of %v is said %v, and the gate is %+v", c.p, told.said, told.gate)
				}
				heard := plainHearClient(y.nodes, y.clients[c.to-1], told.said[0].Term, 1)
				if got := plainPacketIn(y.nodes, heard.came); heard.code != 0 || !got.ok || got.packet != next {
					t.Fatalf("the client at %d hears %v of %v", c.to, got, c.p)
				}
				y.client(c.to-1, hearCall(told.said[0].Term, 1))
			case c.out >= 0:
				if want := append(slices.Clone(before.Outs), impl.Out{Route: c.out, Packet: next}); !slices.Equal(told.gate.Outs, want) || told.gate.Drops != before.Drops || len(told.said) != 0 {
					t.Fatalf("of %v the gate is %+v", c.p, told.gate)
				}
			default:
				if told.gate.Drops != before.Drops+1 || len(told.said) != 0 || !slices.Equal(told.gate.Outs, before.Outs) {
					t.Fatalf("of %v the gate is %+v", c.p, told.gate)
				}
			}
			checkGateIgnores(t, y.nodes, y.gate, mailOf(c.from+1, letter)) // once
			y.isRight()
		}
	}
}

// What comes through need not be a packet: it is told, and falls.
func TestP17BodiesThatAreNoPackets(t *testing.T) {
	y := openYard(t, impl.MdPsk, 1, routeOf(0, 0, 1))
	bodies := []int{0, 1, y.clients[0].Hello, y.make(listCall(91, 10, 20, 3, 7, 40)), y.make(listCall(90, 10, 20, 3, 7, 41)), y.make(listCall(90, 10, 256, 3, 7, 276)), y.make(listCall(90, 10, 20, 0, 7, 37)), y.make(listCall(90, 10, 20, 3, 1000, 1033))}
	for i, body := range bodies {
		told := y.hear(1, y.record(0, 1, body))
		if told.code != 0 || told.came != body || told.gate.Drops != i+1 || len(told.said)+len(told.gate.Outs) != 0 {
			t.Fatalf("of %d came %d, and the gate is %+v", body, told.came, told.gate)
		}
	}
}

func listCall(nums ...int) secretCall {
	return secretCall{fmt.Sprintf("List of %v", nums),
		func(a impl.Arena) (impl.Arena, int) {
			var terms []int
			for _, n := range nums {
				var k int
				a, k = impl.Atom(a, n)
				terms = append(terms, k)
			}
			return impl.List(a, terms)
		},
		func(nodes []impl.Node) ([]impl.Node, int) { return plainWords(nodes, nums) }}
}

func TestP17ForwardEdges(t *testing.T) {
	y := openYard(t, impl.MdCert, 2, routeOf(16, 4, 2))
	for hops := -1; hops <= 11; hops++ {
		for _, dst := range []int{10, 11, 12, 20, 40} {
			p := packetOf(11, dst, hops, 5)
			told := checkForwardPlain(t, y.nodes, y.gate, 2, p)
			if passed := told.gate.Drops == y.gate.Drops; passed != (hops > 1 && hops < 10 && dst != 12 && dst != 40) {
				t.Fatalf("%v passes: %v", p, passed)
			}
		}
	}
	for _, p := range wrongPackets() {
		checkFalls(t, y.nodes, y.gate, 1, p)
		checkFalls(t, y.nodes, y.gate, 2, p)
	}
	for _, cid := range []int{0, 3, -1, 10, 11, math.MinInt, math.MaxInt} { // nobody's
		for _, src := range []int{0, 10, 11, 12} {
			checkFalls(t, y.nodes, y.gate, cid, packetOf(src, 20, 3, 5))
			checkFalls(t, y.nodes, y.gate, cid, packetOf(src, 10, 3, 5))
		}
	}
	for src := range 256 {
		p := packetOf(src, 20, 3, 5)
		if src == 11 {
			if told := checkForwardPlain(t, y.nodes, y.gate, 2, p); len(told.gate.Outs) != 1 {
				t.Fatalf("from its own place it falls: %+v", told.gate)
			}
		} else {
			checkFalls(t, y.nodes, y.gate, 2, p)
		}
	}
	for _, outs := range []int{0, 1, 48, 49, 50, 51, 200} {
		g := gateCopy(y.gate)
		g.Outs = slices.Repeat([]impl.Out{{Route: 7, Packet: packetOf(1, 2, 3, 4)}}, outs)
		told := checkForwardPlain(t, y.nodes, g, 1, packetOf(10, 20, 3, 5))
		if outs < 50 && (len(told.gate.Outs) != outs+1 || told.gate.Outs[outs] != impl.Out{Route: 2, Packet: packetOf(10, 20, 2, 5)}) {
			t.Fatalf("behind %d Outs come %v", outs, told.gate.Outs)
		}
		if outs >= 50 {
			checkFalls(t, y.nodes, g, 1, packetOf(10, 20, 3, 5))
		}
		// What goes to an open session asks for none.
		if told := checkForwardPlain(t, y.nodes, g, 1, packetOf(10, 11, 3, 5)); len(told.said) != 1 {
			t.Fatalf("behind %d Outs is said %v", outs, told.said)
		}
	}
	// A place whose session is not open, or that is nobody's, is an address as others are.
	half := gateCopy(y.gate)
	half.Sesss[1].State = impl.GtHalf
	checkFalls(t, y.nodes, half, 1, packetOf(10, 11, 3, 5))
	half.Routes = []impl.Route{routeOf(0, 0, 4)}
	if told := checkForwardPlain(t, y.nodes, half, 1, packetOf(10, 11, 3, 5)); len(told.gate.Outs) != 1 {
		t.Fatalf("to a half open session: %+v", told.gate)
	}
	// What an open session can't be told falls, though a way would fit.
	for _, c := range []impl.Chan{{}, saying(y.gate.Sesss[1].Chan.App, 2, 0, 10000), saying(len(y.nodes)+90, 2, 0, 0), saying(0, 3, 0, 0), saying(0, 2, 9, 0)} {
		g := gateCopy(half)
		g.Sesss[1].State, g.Sesss[1].Chan = impl.GtOpen, c
		checkFalls(t, y.nodes, g, 1, packetOf(10, 11, 3, 5))
	}
	last := gateCopy(y.gate)
	last.Sesss[1].Chan.Seq = 9999
	if told := checkForwardPlain(t, y.nodes, last, 1, packetOf(10, 11, 3, 5)); told.gate.Sesss[1].Chan.Seq != 10000 {
		t.Fatalf("with the last Seq: %+v", told.gate)
	}
	many := gateCopy(y.gate)
	many.Drops = 77
	checkFalls(t, y.nodes, many, 5, packetOf(10, 11, 3, 5))
}

// An address that changes: with a record that is newer than all that came the gate answers there from then on; with an older one it does not.
func TestP17Roaming(t *testing.T) {
	y := openYard(t, impl.MdPsk, 2)
	first := y.packet(0, 1, packetOf(10, 11, 3, 1))
	second := y.packet(0, 1, packetOf(10, 11, 3, 2))
	addrIs := func(addr int) {
		t.Helper()
		if y.gate.Sesss[0].Addr != addr {
			t.Fatalf("the session is at %d; want %d", y.gate.Sesss[0].Addr, addr)
		}
	}
	y.hear(5, second)
	addrIs(5)
	y.hear(7, first) // not newer, and heard all the same
	addrIs(5)
	if y.gate.Sesss[0].Chan.Now != windowWith(0, 1) {
		t.Fatalf("heard is %+v", y.gate.Sesss[0].Chan)
	}
	checkGateIgnores(t, y.nodes, y.gate, mailOf(8, first), mailOf(8, second), mailOf(5, second))
	third := y.packet(0, 1, packetOf(10, 11, 3, 3))
	y.clients[0].Chan.Epoch, y.clients[0].Chan.Seq = 1, 0
	turned := y.packet(0, 1, packetOf(10, 11, 3, 4))
	y.hear(6, turned)
	addrIs(6)
	y.hear(4, third) // of the epoch ahead
	addrIs(6)
	if s := y.gate.Sesss[0]; s.Chan.Heard != 1 || s.Chan.Last != windowWith(0, 1, 2) || s.Chan.Now != windowWith(0) {
		t.Fatalf("heard is %+v", s.Chan)
	}
	// What is said to it goes where it is.
	told := y.hear(2, y.packet(1, 2, packetOf(11, 10, 3, 5)))
	if len(told.said) != 1 || told.said[0].Addr != 6 {
		t.Fatalf("said is %v", told.said)
	}
	// Addresses are not asked for: any number may be one.
	for _, addr := range []int{-1, math.MaxInt, math.MinInt, 0} {
		y.hear(addr, y.packet(0, 1, packetOf(10, 20, 3, 5)))
		addrIs(addr)
	}
}

func TestP17RecordsThatAreNotHeard(t *testing.T) {
	y := openYard(t, impl.MdPsk, 2)
	who := y.toWhoOf(3) // a third session, half open, has the Cid 3
	letter := y.packet(0, 1, packetOf(10, 11, 3, 1))
	record := plainLetterIn(y.nodes, letter).parts[1]
	for _, cid := range []int{0, 2, 3, 4, 9999, 999999} { // another one's, and nobody's
		checkGateIgnores(t, y.nodes, y.gate, mailOf(1, y.make(letterCall(76, y.put(atomNode(cid)), record))))
	}
	own := y.put(atomNode(1))
	app := y.gate.Sesss[0].Chan.App
	for _, end := range []impl.Chan{endAt(app, 2), endAt(y.gate.Sesss[1].Chan.App, 1), endAt(y.gate.Sesss[0].Hand, 1), saying(app, 1, 2, 0), saying(app, 1, 8, 0)} {
		var k int
		y.nodes, _, k = mustSay(t, y.nodes, end, 2)
		checkGateIgnores(t, y.nodes, y.gate, mailOf(1, y.make(letterCall(76, own, k))))
	}
	checkGateIgnores(t, y.nodes, y.gate, mailOf(1, y.make(letterCall(76, own, 0))), mailOf(1, y.make(letterCall(76, record, record))), mailOf(1, record))
	broken := gateCopy(y.gate)
	broken.Sesss[0].Chan.Side = 0
	checkGateIgnores(t, y.nodes, broken, mailOf(1, letter))
	broken = gateCopy(y.gate)
	broken.Sesss[0].State = 3
	checkGateIgnores(t, y.nodes, broken, mailOf(1, letter))
	if told := y.hear(1, letter); told.code != 0 {
		t.Fatalf("the right one is not heard")
	}
	if told := y.hear(3, who); told.code != 0 || len(y.gate.Pool) != 3 {
		t.Fatalf("the third one does not open: %+v", y.gate)
	}
}

// toWhoOf is a client more, up to its part.
func (y *yard) toWhoOf(name int) int {
	y.t.Helper()
	y.clients = append(y.clients, impl.ClientNew(name, 9, y.clients[0].Mode))
	return y.toWho(name - 1)
}

// Letters that no gate hears, terms that are no letters, and places that are none.
func TestP17WhatIsNoLetterToAGate(t *testing.T) {
	y := openYard(t, impl.MdCert, 2)
	y.packet(0, 1, packetOf(10, 11, 3, 1))
	gates := []impl.Gate{y.gate, impl.GateNew(9, nil), {}}
	for k := -1; k <= len(y.nodes)+1; k++ {
		letter := plainLetterIn(y.nodes, k)
		for _, g := range gates {
			if !slices.Contains([]int{71, 74, 76}, letter.kind) {
				checkGateIgnores(t, y.nodes, g, mailOf(1, k), mailOf(99, k))
			} else {
				checkGateHears(t, y.nodes, g, mailOf(1, k), 70000, 50)
			}
		}
	}
	for _, k := range outside {
		checkGateIgnores(t, y.nodes, y.gate, mailOf(1, k))
		checkGateIgnores(t, nil, y.gate, mailOf(1, k))
	}
	for _, kind := range []int{70, 72, 73, 75, 77} {
		for parts := range 3 {
			checkGateIgnores(t, y.nodes, y.gate, mailOf(1, y.make(letterCall(kind, []int{0, 1}[:parts]...))))
		}
	}
}

func TestP17SessAt(t *testing.T) {
	g := impl.Gate{Sesss: []impl.Sess{{Cid: 5}, {Cid: 2}, {Cid: 5}, {Cid: -1}}}
	for cid, want := range map[int]int{5: 0, 2: 1, -1: 3, 0: -1, 1: -1, math.MaxInt: -1} {
		if got := impl.SessAt(g, cid); got != want {
			t.Errorf("SessAt(.., %d) = %d; want %d", cid, got, want)
		}
	}
	if impl.SessAt(impl.Gate{}, 0) != -1 || impl.SessAt(impl.Gate{}, -1) != -1 {
		t.Errorf("an empty gate has a session")
	}
}

// wrongGates are right but for one thing, each.
func wrongGates(y *yard) []impl.Gate {
	var gates []impl.Gate
	of := func(change func(g *impl.Gate)) {
		g := gateCopy(y.gate)
		change(&g)
		gates = append(gates, g)
	}
	for _, n := range []int{-1, 10, math.MinInt, math.MaxInt} {
		of(func(g *impl.Gate) { g.Name = n })
	}
	for _, n := range []int{0, -1, 1, 2, 3, 10000, math.MinInt, math.MaxInt} { // the greatest Cid is 3
		of(func(g *impl.Gate) { g.Next = n })
	}
	for _, n := range []int{0, -1, 2, 4, 9999, math.MinInt, math.MaxInt} {
		of(func(g *impl.Gate) { g.Sesss[0].Cid = n })
		of(func(g *impl.Gate) { g.Sesss[2].Cid = n })
	}
	for _, n := range []int{0, 3, -1, 1 + 1<<32, math.MaxInt} {
		of(func(g *impl.Gate) { g.Sesss[2].State = n })
		of(func(g *impl.Gate) { g.Sesss[0].State = n })
	}
	of(func(g *impl.Gate) { g.Sesss[0].State = impl.GtHalf }) // one lease too many
	of(func(g *impl.Gate) { g.Sesss[2].State = impl.GtOpen }) // without a place
	of(func(g *impl.Gate) {
		g.Sesss[2].State, g.Sesss[2].Chan, g.Pool = impl.GtOpen, impl.Chan{}, leasesOf(10, 1, 11, 2, 12, 3)
	})
	of(func(g *impl.Gate) { g.Pool = nil })
	of(func(g *impl.Gate) { g.Pool = leasesOf(10, 1) })
	of(func(g *impl.Gate) { g.Pool = leasesOf(10, 1, 11, 3) })
	of(func(g *impl.Gate) { g.Pool = leasesOf(10, 1, 11, 2, 12, 3) })
	of(func(g *impl.Gate) { g.Pool = leasesOf(11, 1, 10, 2) })
	of(func(g *impl.Gate) { g.Pool = leasesOf(9, 1, 10, 2) })
	of(func(g *impl.Gate) { g.Pool = leasesOf(12, 1, 13, 2) })
	of(func(g *impl.Gate) { g.Pool = leasesOf(10, 1, 11, 1) })
	of(func(g *impl.Gate) { g.Routes = []impl.Route{routeOf(16, 3, 1)} })
	of(func(g *impl.Gate) { g.Routes = slices.Repeat([]impl.Route{routeOf(16, 4, 1)}, 2) })
	of(func(g *impl.Gate) { g.Outs = make([]impl.Out, 51) })
	of(func(g *impl.Gate) {
		g.Sesss = append(g.Sesss, impl.Sess{Cid: 4, State: impl.GtHalf})
		g.Next = 5
	})
	for _, c := range wrongEnds() {
		if !plainChanOk(y.nodes, c) {
			of(func(g *impl.Gate) { g.Sesss[1].Chan = c })
		}
	}
	return gates
}

// halfYard is a gate with two clients open, and a third one half.
func halfYard(t *testing.T, mode int) *yard {
	t.Helper()
	y := openYard(t, mode, 2, routeOf(0, 0, 1), routeOf(16, 4, 2))
	y.toWhoOf(3)
	y.isRight()
	return y
}

func TestP17GateOk(t *testing.T) {
	y := halfYard(t, impl.MdCert)
	for i, g := range wrongGates(y) {
		if plainGateOk(y.nodes, g) {
			t.Fatalf("the gate at %d is right: %+v", i, g)
		}
		checkGateOk(t, y.nodes, g, false)
	}
	for _, change := range []func(g *impl.Gate){
		func(g *impl.Gate) { g.Next = 9999 },
		func(g *impl.Gate) { g.Name = 0 },
		func(g *impl.Gate) { g.Outs = make([]impl.Out, 50) },
		func(g *impl.Gate) { g.Drops = -5 },
		func(g *impl.Gate) { g.Routes = nil },
		func(g *impl.Gate) { g.Pool = leasesOf(11, 1, 12, 2) },
		func(g *impl.Gate) { g.Pool = leasesOf(10, 2, 12, 1) },
		func(g *impl.Gate) { g.Sesss[2] = impl.Sess{Cid: 3, State: impl.GtHalf, Addr: -7, Name: 99, Heard: -1} },
		func(g *impl.Gate) { g.Sesss[0].Name, g.Sesss[0].Mode, g.Sesss[0].Hello = -1, 9, 100000 },
		func(g *impl.Gate) { g.Sesss, g.Pool = nil, nil },
		func(g *impl.Gate) { g.Sesss[2].Cid, g.Next = 9998, 9999 },
		func(g *impl.Gate) { slices.Reverse(g.Sesss) },
	} {
		g := gateCopy(y.gate)
		change(&g)
		checkGateOk(t, y.nodes, g, true)
	}
	// A channel's App must be there: in a lesser arena it is not.
	checkGateOk(t, y.nodes[:5], y.gate, false)
	checkGateOk(t, nil, y.gate, false)
	checkGateOk(t, nil, impl.Gate{}, false)
	checkGateOk(t, nil, impl.Gate{Next: 1}, true)
}

// Gates for which GateOk is false hear, pass on, turn and let go as the words of each say.
func TestP17WrongGates(t *testing.T) {
	for _, mode := range bothModes {
		y := halfYard(t, mode)
		var letters []int
		letters = append(letters, y.packet(0, 1, packetOf(10, 11, 3, 1)), y.packet(1, 2, packetOf(11, 20, 3, 1)), y.clients[2].Last)
		hello := y.make(letterCall(71, y.clients[2].Hello, y.make(cookieCall(9000, 7, y.clients[2].Hello))))
		letters = append(letters, hello)
		gates := append(wrongGates(y), impl.Gate{}, impl.Gate{Name: -1, Next: -1})
		long := gateCopy(y.gate)
		long.Sesss, long.Pool, long.Outs = slices.Repeat(long.Sesss, 20), slices.Repeat(long.Pool, 20), make([]impl.Out, 60)
		for _, g := range append(gates, long) {
			for i, letter := range letters {
				checkGateHears(t, y.nodes, g, mailOf(min(i+1, 3), letter), 70000, 50)
				checkGateHears(t, y.nodes, g, mailOf(7, letter), 70000, 50)
			}
			for _, cid := range []int{-1, 0, 1, 2, 3, 4} {
				want, ok := plainTurnGate(g, cid)
				checkTurnGate(t, g, cid, want, ok)
				for _, dst := range []int{0, 9, 10, 11, 12, 13, 20} {
					for _, src := range []int{0, 9, 10, 11, 12, 13} {
						checkForwardPlain(t, y.nodes, g, cid, packetOf(src, dst, 3, 5))
					}
				}
			}
			for _, now := range []int{0, 20, 21, 22, 99, math.MinInt, math.MaxInt} {
				checkIdle(t, g, now, plainIdle(g, now))
			}
		}
	}
}

func TestP17Turns(t *testing.T) {
	y := halfYard(t, impl.MdPsk)
	for _, cid := range []int{1, 2} {
		want, ok := plainTurnGate(y.gate, cid)
		if !ok || want.Sesss[cid-1].Chan.Epoch != 1 {
			t.Fatalf("the gate does not turn %d: %+v", cid, want)
		}
		checkTurnGate(t, y.gate, cid, want, true)
		checkTurnGate(t, want, cid, want, false) // ahead of what is heard
	}
	for _, cid := range []int{0, 3, 4, -1, math.MinInt, math.MaxInt} { // half open, or none
		checkTurnGate(t, y.gate, cid, y.gate, false)
	}
	for epoch := -1; epoch <= 9; epoch++ {
		for heard := -1; heard <= 9; heard++ {
			g := gateCopy(y.gate)
			g.Sesss[0].Chan.Epoch, g.Sesss[0].Chan.Seq, g.Sesss[0].Chan.Heard = epoch, 55, heard
			want, ok := plainTurnGate(g, 1)
			checkTurnGate(t, g, 1, want, ok)
		}
	}
	// What is said behind a turn is heard by the client, which goes over with it.
	y.gate, _ = impl.TurnGate(y.gate, 1)
	told := y.hear(2, y.packet(1, 2, packetOf(11, 10, 3, 5)))
	y.client(0, hearCall(told.said[0].Term, 1))
	if c := y.clients[0].Chan; c.Heard != 1 || c.Now != windowWith(0) {
		t.Fatalf("the client hears %+v", c)
	}
}

// Who is not heard for more than 20 is let go, and its place is given back.
func TestP17Idle(t *testing.T) {
	y := halfYard(t, impl.MdCert)
	for i, heard := range []int{5, 30, 6} {
		y.gate.Sesss[i].Heard = heard
	}
	for now, stay := range map[int][]int{0: {1, 2, 3}, 25: {1, 2, 3}, 26: {2, 3}, 27: {2}, 50: {2}, 51: nil, 99999: nil, -1: {1, 2, 3}, math.MinInt: {1, 2, 3}, math.MaxInt: nil} {
		got := impl.IdleGate(y.gate, now)
		var cids, leased []int
		for _, s := range got.Sesss {
			cids = append(cids, s.Cid)
		}
		for _, l := range got.Pool {
			leased = append(leased, l.Cid)
		}
		var open []int
		for _, cid := range stay {
			if cid < 3 {
				open = append(open, cid)
			}
		}
		if !slices.Equal(cids, stay) || !slices.Equal(leased, open) {
			t.Fatalf("at %d stay %v, with places of %v; want %v, %v", now, cids, leased, stay, open)
		}
		checkIdle(t, y.gate, now, plainIdle(y.gate, now))
		checkGateOk(t, y.nodes, got, true)
	}
	for _, heard := range []int{math.MinInt, math.MinInt + 20, math.MinInt + 21, -20, -1, 0, math.MaxInt - 21, math.MaxInt - 20, math.MaxInt} {
		for _, now := range []int{math.MinInt, math.MinInt + 20, math.MinInt + 21, math.MinInt + 41, math.MinInt + 42, 0, 1, 20, 21, math.MaxInt - 1, math.MaxInt} {
			g := gateCopy(y.gate)
			g.Sesss[0].Heard = heard
			checkIdle(t, g, now, plainIdle(g, now))
		}
	}
	checkIdle(t, impl.Gate{}, 50, impl.Gate{})
}

// checkGateRoom has room for none of what a mail brings up to more than all of it: room for some is room for none.
func checkGateRoom(t *testing.T, nodes []impl.Node, g impl.Gate, m impl.Mail) {
	t.Helper()
	brings := len(plainHearGate(nodes, g, m, 5000, 5).nodes) - len(nodes)
	if brings == 0 {
		t.Fatalf("%v brings nothing", m)
	}
	for room := range brings + 2 {
		full := fill(nodes, room)
		want := gateTold{full, g, nil, -1, 1}
		if room >= brings {
			want = plainHearGate(full, g, m, 5000, 5)
			if len(want.nodes) != len(full)+brings || want.code != 0 {
				t.Fatalf("with room for %d it brings %d, not %d", room, len(want.nodes)-len(full), brings)
			}
		}
		checkHearGate(t, full, g, m, 5000, 5, want)
	}
	over := slices.Concat(fill(nodes, 0), []impl.Node{atomNode(90000), hashNode(0)})
	checkHearGate(t, over, g, m, 5000, 5, gateTold{over, g, nil, -1, 1})
}

func TestP17Room(t *testing.T) {
	for _, mode := range bothModes {
		y := yardOf(t, mode, 1)
		first := y.hello(0)
		checkGateRoom(t, y.nodes, y.gate, mailOf(1, first))
		again := y.client(0, hearCall(y.says(1, first), 0))
		checkGateRoom(t, y.nodes, y.gate, mailOf(1, again))
		server := y.says(1, again)
		for _, full := range [][]impl.Node{fill(y.nodes, 0), slices.Concat(fill(y.nodes, 0), []impl.Node{hashNode(0)})} { // again, without room
			if told := checkGateHears(t, full, y.gate, mailOf(1, again), 5000, 5); told.code != 0 || told.said[0].Term != server {
				t.Fatalf("in a full arena it says %v, code %d", told.said, told.code)
			}
		}
		who := y.client(0, hearCall(server, 0))
		checkGateRoom(t, y.nodes, y.gate, mailOf(1, who))
		y.client(0, hearCall(y.says(1, who), 0))
		// A record is heard without room; what of it can't be said again falls.
		letter := y.packet(0, 1, packetOf(10, 10, 3, 777))
		full := y.nodes
		brings := len(plainHearGate(full, y.gate, mailOf(1, letter), 5000, 5).nodes) - len(full)
		for room := range brings + 2 {
			nodes := fill(full, room)
			told := checkGateHears(t, nodes, y.gate, mailOf(1, letter), 5000, 5)
			if falls := told.gate.Drops == 1; told.code != 0 || falls != (room < brings) || falls && len(told.nodes) != len(nodes) {
				t.Fatalf("with room for %d of %d the gate is %+v", room, brings, told.gate)
			}
			if room < brings {
				checkFalls(t, nodes, y.gate, 1, packetOf(10, 10, 3, 777))
			}
		}
	}
}

// Some of what a mail brings is there, in any beginning of it; nothing stays where the rest has no room.
func TestP17RoomWithSomeThere(t *testing.T) {
	y := yardOf(t, impl.MdCert, 1)
	again := y.client(0, hearCall(y.says(1, y.hello(0)), 0))
	before, gate, m := y.nodes, y.gate, mailOf(1, again)
	who := y.client(0, hearCall(y.says(1, again), 0))
	for _, c := range []struct {
		nodes []impl.Node
		gate  impl.Gate
		m     impl.Mail
	}{{before, gate, m}, {y.nodes, y.gate, mailOf(1, who)}} {
		all := plainHearGate(c.nodes, c.gate, c.m, 5000, 5)
		for there := len(c.nodes); there < len(all.nodes); there++ {
			missing := len(all.nodes) - there
			for _, room := range []int{0, missing - 1, missing} {
				nodes := fill(all.nodes[:there], room)
				told := checkGateHears(t, nodes, c.gate, c.m, 5000, 5)
				if (told.code == 0) != (room == missing) || told.code == 1 && len(told.nodes) != len(nodes) {
					t.Fatalf("with %d there and room for %d the code is %d", there, room, told.code)
				}
			}
		}
	}
}

// yardLetters are letters of every kind in a yard, each with the address that it comes from; the gates are what it was.
func yardLetters(t *testing.T, mode int) (*yard, []impl.Gate, []impl.Mail) {
	t.Helper()
	y := yardOf(t, mode, 2, routeOf(16, 4, 2))
	gates := []impl.Gate{y.gate}
	first := y.hello(0)
	retry := y.says(1, first)
	again := y.client(0, hearCall(retry, 0))
	server := y.says(1, again)
	gates = append(gates, y.gate)
	who := y.client(0, hearCall(server, 0))
	ack := y.says(1, who)
	y.client(0, hearCall(ack, 0))
	gates = append(gates, y.gate)
	y.open(1)
	packet := y.packet(0, 1, packetOf(10, 11, 3, 1))
	away := y.packet(1, 2, packetOf(11, 20, 3, 1))
	gates = append(gates, y.gate)
	mails := []impl.Mail{mailOf(1, first), mailOf(1, retry), mailOf(1, again), mailOf(1, server), mailOf(1, who), mailOf(1, ack), mailOf(1, packet), mailOf(2, away), mailOf(5, packet)}
	return y, gates, mails
}

// A node that would be right nowhere, at places of a yard: each gate answers each letter as the plain way does.
func TestP17WrongNodes(t *testing.T) {
	for _, mode := range bothModes {
		y, gates, mails := yardLetters(t, mode)
		for i, wrong := range wrongNodes {
			for at := i % 5; at < len(y.nodes); at += 5 {
				nodes := slices.Clone(y.nodes)
				nodes[at] = wrong
				for _, g := range gates {
					for _, m := range mails {
						checkGateHears(t, nodes, g, m, 50000, 50)
					}
				}
				checkForwardPlain(t, nodes, y.gate, 1, packetOf(10, 11, 5, 5))
				if impl.GateOk(arenaOf(nodes...), y.gate) != plainGateOk(nodes, y.gate) {
					t.Fatalf("GateOk tells another one of %+v", y.gate)
				}
			}
		}
	}
}

// drawGate is one of these, with some field of it changed, most of the time.
func drawGate(draw *rand.Rand, gates []impl.Gate, end int) impl.Gate {
	g := gateCopy(gates[draw.Intn(len(gates))])
	place := func() int { return draw.Intn(end+4) - 2 }
	switch draw.Intn(9) {
	case 0:
		g.Name = draw.Intn(12) - 1
	case 1:
		g.Next = []int{-1, 0, 1, 2, 9998, 9999}[draw.Intn(6)]
	case 2:
		g.Pool = leasesOf(draw.Intn(5)+9, draw.Intn(4), draw.Intn(5)+9, draw.Intn(4))
	case 3:
		g.Outs = make([]impl.Out, 48+draw.Intn(4))
	case 4:
		g.Routes = []impl.Route{drawRoute(draw), drawRoute(draw)}
	}
	if len(g.Sesss) == 0 {
		return g
	}
	s := &g.Sesss[draw.Intn(len(g.Sesss))]
	switch draw.Intn(14) {
	case 0:
		s.Cid = draw.Intn(5) - 1
	case 1:
		s.Addr = draw.Intn(4)
	case 2:
		s.State = draw.Intn(4)
	case 3:
		s.Name = draw.Intn(12) - 1
	case 4:
		s.Mode = draw.Intn(4)
	case 5:
		s.Hello = place()
	case 6:
		s.Said = place()
	case 7:
		s.Part = place()
	case 8:
		s.Hand = place()
	case 9:
		s.Last = place()
	case 10:
		s.Chan = drawEnd(draw, end)
	}
	return g
}

// Yards of which one node is drawn anew, or in which some stand at other places, and gates with fields drawn anew.
func TestP17DrawnYards(t *testing.T) {
	draw := rand.New(rand.NewSource(37))
	for _, mode := range bothModes {
		y, gates, mails := yardLetters(t, mode)
		for range 400 {
			nodes := slices.Clone(y.nodes)
			switch draw.Intn(3) {
			case 0:
				drawAnew(draw, nodes, draw.Intn(len(nodes)), drawPartNode)
			case 1:
				i, j := draw.Intn(len(nodes)), draw.Intn(len(nodes))
				nodes[i], nodes[j] = nodes[j], nodes[i]
			}
			g := drawGate(draw, gates, len(nodes))
			for _, m := range mails {
				if draw.Intn(4) == 0 {
					m.Addr = draw.Intn(4)
				}
				checkGateHears(t, nodes, g, m, []int{50000, 999, 1000, 30000}[draw.Intn(4)], draw.Intn(100))
			}
			p := packetOf(9+draw.Intn(5), []int{9, 10, 11, 12, 20, 40}[draw.Intn(6)], draw.Intn(4), draw.Intn(4))
			checkForwardPlain(t, nodes, g, draw.Intn(4), p)
			if impl.GateOk(arenaOf(nodes...), g) != plainGateOk(nodes, g) {
				t.Fatalf("GateOk tells another one of %+v", g)
			}
			now := draw.Intn(60)
			checkIdle(t, g, now, plainIdle(g, now))
		}
	}
}

// Drawn arenas, many of them not right, with letters in them.
func TestP17DrawnArenas(t *testing.T) {
	draw := rand.New(rand.NewSource(38))
	for range 1200 {
		nodes := drawNodes(draw, 14, drawPartNode)
		at := func() int { return draw.Intn(len(nodes)+3) - 1 }
		kind := []int{71, 74, 76}[draw.Intn(3)]
		with, letter := plainWords(nodes, []int{kind}, at())
		if letter < 0 || kind != 74 {
			with, letter = plainWords(nodes, []int{kind}, at(), at())
		}
		sess := func(cid int) impl.Sess {
			return impl.Sess{Cid: cid, Addr: draw.Intn(2), State: draw.Intn(4), Name: draw.Intn(11), Mode: draw.Intn(3), Hello: at(), Said: at(), Part: at(), Hand: at(), Last: at(), Chan: drawEnd(draw, len(nodes)), Heard: draw.Intn(40)}
		}
		g := impl.Gate{Name: draw.Intn(11), Next: 3, Sesss: []impl.Sess{sess(0), sess(1)}, Pool: leasesOf(10, 0, 11, 1), Routes: []impl.Route{drawRoute(draw)}}
		checkGateHears(t, with, g, mailOf(draw.Intn(2), letter), 1000+draw.Intn(4), 5)
		checkGateHears(t, with, g, mailOf(draw.Intn(2), at()), 1000, 5)
		checkForwardPlain(t, with, g, draw.Intn(2), packetOf(10+draw.Intn(2), 10+draw.Intn(3), 2+draw.Intn(3), draw.Intn(3)))
	}
}

// Whatever a gate hears of who hears all, in any order: it is right at each step, it keeps nothing of who has no cookie, and a place is its own one's.
func TestP17DrawnDays(t *testing.T) {
	draw := rand.New(rand.NewSource(39))
	codes := map[int]int{}
	for day := range 30 {
		y := yardOf(t, 1+day%2, 3, routeOf(16, 4, 2))
		var letters []int
		for range 60 {
			i := draw.Intn(3)
			switch draw.Intn(6) {
			case 0:
				if c := y.clients[i].State; c == impl.ClIdle || c == impl.ClFailed {
					letters = append(letters, y.hello(i))
				}
			case 1:
				y.now += draw.Intn(6)
				y.gate = impl.IdleGate(y.gate, y.now)
			case 2:
				if y.clients[i].State == impl.ClOpen {
					letters = append(letters, y.packet(i, 1+draw.Intn(4), packetOf(10+draw.Intn(3), 10+draw.Intn(20), 3, 1)))
				}
			default:
				if len(letters) == 0 {
					continue
				}
				letter := letters[max(0, len(letters)-1-draw.Intn(4))]
				sessions := len(y.gate.Sesss)
				addr := 1 + draw.Intn(4)
				hello := plainLetterIn(y.nodes, letter)
				hasCookie := hello.kind == 71 && plainCookieAt(y.nodes, 9000, addr, hello.parts[0]) == hello.parts[1]
				told := y.hear(addr, letter)
				codes[told.code]++
				if len(y.gate.Sesss) > sessions && !hasCookie {
					t.Fatalf("a session is kept of who has no cookie: %+v", y.gate)
				}
				for _, m := range told.said {
					letters = append(letters, m.Term)
					if at := m.Addr - 1; at >= 0 && at < 3 {
						heard := plainHearClient(y.nodes, y.clients[at], m.Term, min(y.now, 99999))
						y.nodes, y.clients[at] = heard.nodes, heard.client
						if heard.said >= 0 {
							letters = append(letters, heard.said)
						}
					}
				}
			}
			y.isRight()
			for _, o := range y.gate.Outs {
				if o.Packet.Src < 10 || o.Packet.Src > 12 {
					t.Fatalf("let through is %+v", o)
				}
			}
		}
	}
	if codes[0] < 100 || codes[1] < 100 {
		t.Errorf("codes are %v", codes)
	}
}

// roomyGate has spare room behind each list; whether all of it is as it was tells the function.
func roomyGate(g impl.Gate) (impl.Gate, func() bool) {
	sesss := append(slices.Clone(g.Sesss), slices.Repeat([]impl.Sess{{Cid: 55}}, 5)...)
	pool := append(slices.Clone(g.Pool), slices.Repeat([]impl.Lease{{Place: 55}}, 5)...)
	routes := append(slices.Clone(g.Routes), slices.Repeat([]impl.Route{{Net: 55}}, 5)...)
	outs := append(slices.Clone(g.Outs), slices.Repeat([]impl.Out{{Route: 55}}, 5)...)
	was := impl.Gate{Sesss: slices.Clone(sesss), Pool: slices.Clone(pool), Routes: slices.Clone(routes), Outs: slices.Clone(outs)}
	roomy := g
	roomy.Sesss, roomy.Pool, roomy.Routes, roomy.Outs = sesss[:len(g.Sesss)], pool[:len(g.Pool)], routes[:len(g.Routes)], outs[:len(g.Outs)]
	return roomy, func() bool {
		return sameGate(was, impl.Gate{Sesss: sesss, Pool: pool, Routes: routes, Outs: outs})
	}
}

// scribble writes over all lists of a gate, and the room behind them.
func scribble(g impl.Gate) {
	for i := range g.Sesss[:cap(g.Sesss)] {
		g.Sesss[:cap(g.Sesss)][i] = impl.Sess{Cid: -9}
	}
	for i := range g.Pool[:cap(g.Pool)] {
		g.Pool[:cap(g.Pool)][i] = impl.Lease{Place: -9}
	}
	for i := range g.Routes[:cap(g.Routes)] {
		g.Routes[:cap(g.Routes)][i] = impl.Route{Net: -9}
	}
	for i := range g.Outs[:cap(g.Outs)] {
		g.Outs[:cap(g.Outs)][i] = impl.Out{Route: -9}
	}
}

func scribbleNodes(nodes []impl.Node) {
	nodes = nodes[:cap(nodes)]
	for i := range nodes {
		nodes[i] = impl.Node{Kind: -9}
	}
}

func TestP17AnswersAreNewMemory(t *testing.T) {
	for _, mode := range bothModes {
		y, gates, mails := yardLetters(t, mode)
		spares := slices.Repeat([]impl.Node{{Kind: 55, Num: 55}}, 60)
		nodes := slices.Concat(y.nodes, spares)
		a := impl.Arena{Nodes: nodes[:len(y.nodes)]}
		for _, g := range append(gates, wrongGates(halfYard(t, mode))...) {
			g.Outs = append(slices.Clone(g.Outs), impl.Out{Route: 1})
			roomy, isAsItWas := roomyGate(g)
			check := func(what string, arena []impl.Node, gate impl.Gate) {
				t.Helper()
				scribble(gate)
				scribbleNodes(arena)
				if !isAsItWas() || !slices.Equal(nodes, slices.Concat(y.nodes, spares)) {
					t.Fatalf("by %s an argument was changed", what)
				}
			}
			for _, m := range append(slices.Clone(mails), mailOf(1, -1), mailOf(1, 0)) {
				b, h, said, _, _ := impl.HearGate(a, roomy, m, 50000, 5)
				for i := range said {
					said[i] = impl.Mail{}
				}
				check("HearGate", b.Nodes, h)
			}
			for _, dst := range []int{10, 11, 20, 50} {
				b, h, _ := impl.ForwardGate(a, roomy, 1, packetOf(10, dst, 3, 5))
				check("ForwardGate", b.Nodes, h)
			}
			for _, cid := range []int{1, 2, 7} {
				h, _ := impl.TurnGate(roomy, cid)
				check("TurnGate", nil, h)
			}
			for _, now := range []int{0, 99} {
				check("IdleGate", nil, impl.IdleGate(roomy, now))
			}
			impl.GateOk(a, roomy)
			impl.SessAt(roomy, 1)
			check("GateOk", nil, impl.Gate{})
		}
	}
}
