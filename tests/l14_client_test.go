package tests

import (
	"fmt"
	"math"
	"math/rand"
	"slices"
	"testing"

	"loop.example/g00466/impl"
)

// clientTold is what a function of the chapter answers: what is said and what came through (-1 without it), and a code (0 where there is none).
type clientTold struct {
	nodes            []impl.Node
	client           impl.Client
	said, came, code int
}

func (c clientTold) is(other clientTold) bool {
	return slices.Equal(c.nodes, other.nodes) && c.client == other.client && c.said == other.said && c.came == other.came && c.code == other.code
}

func (c clientTold) String() string {
	return fmt.Sprintf("%s of %d nodes, %+v, %d, %d, code %d", brief(c.nodes), len(c.nodes), c.client, c.said, c.came, c.code)
}

// A clientCall is a function of the chapter with all its arguments but the arena and the client: by the program, and the plain way.
type clientCall struct {
	name  string
	call  func(a impl.Arena, c impl.Client) clientTold
	plain func(nodes []impl.Node, c impl.Client) clientTold
}

func isTime(now int) bool { return now >= 0 && now < 100000 }

// waits is a client that said something just now.
func waits(c impl.Client, now int) impl.Client {
	c.Due, c.Wait, c.Tries = now+1, 1, 0
	return c
}

func letterWay(kind int, parts ...int) plainWay {
	return func(nodes []impl.Node) ([]impl.Node, int) { return plainWords(nodes, []int{kind}, parts...) }
}

func plainStart(nodes []impl.Node, c impl.Client, draw, now int) clientTold {
	refused := clientTold{nodes, c, -1, -1, 0}
	if c.State != 0 && c.State != 4 || draw < 1000 || draw > 900000 || !isTime(now) {
		return refused
	}
	m := makerOf(nodes)
	nonce := m.put(atomNode(draw + 1))
	pub := m.put(pubNode(m.put(atomNode(draw))))
	hello := m.make(func(nodes []impl.Node) ([]impl.Node, int) {
		return plainHelloTerm(nodes, impl.Hello{Mode: c.Mode, Name: c.Name, Nonce: nonce, Pub: pub})
	})
	letter := m.make(letterWay(71, hello, m.put(atomNode(0))))
	if m.failed {
		return refused
	}
	anew := impl.Client{Name: c.Name, Gate: c.Gate, Mode: c.Mode, State: 1, Draw: draw, Hello: hello, Last: letter}
	return clientTold{m.nodes, waits(anew, now), letter, -1, 0}
}

// plainTurn is what a client does with a letter of a kind that it waits for; false when that is nothing.
func plainTurn(nodes []impl.Node, c impl.Client, letter letterTold, now int) (clientTold, bool) {
	m := makerOf(nodes)
	switch {
	case letter.kind == 72 && c.State == 1 && !c.Cookie:
		c.Cookie = true
		c.Last = m.make(letterWay(71, c.Hello, letter.parts[0]))
		return clientTold{m.nodes, waits(c, now), c.Last, -1, 0}, !m.failed
	case letter.kind == 73 && c.State == 1:
		server := plainServerIn(nodes, letter.parts[0])
		both := m.put(pairNode(c.Hello, letter.parts[0]))
		secret := m.put(atomNode(c.Draw))
		c.Hand = m.make(handAsk{secret, server.pub, c.Mode, c.Name, c.Gate, both}.plain)
		if m.failed || !server.ok || !(partAsk{2, c.Hand, c.Mode, c.Gate, both}).plainOk(m.nodes, letter.parts[1]) {
			return clientTold{}, false
		}
		said := m.put(pairNode(both, letter.parts[1]))
		own := m.make(partAsk{1, c.Hand, c.Mode, c.Name, said}.plain)
		c.Last = m.make(letterWay(74, own))
		c.Said = m.put(pairNode(said, own))
		c.State = 2
		return clientTold{m.nodes, waits(c, now), c.Last, -1, 0}, !m.failed
	case letter.kind == 75 && c.State == 2:
		ack := plainAckIn(nodes, c.Hand, c.Said, letter.parts[0])
		app := m.make(func(nodes []impl.Node) ([]impl.Node, int) { return plainApp(nodes, c.Hand, c.Said) })
		c.State, c.Lease, c.Chan = 3, ack.lease, endAt(app, 1)
		return clientTold{m.nodes, c, -1, -1, 0}, ack.ok && !m.failed
	case letter.kind == 76 && c.State == 3:
		heard := plainHear(nodes, c.Chan, letter.parts[1])
		c.Chan = heard.end
		return clientTold{nodes, c, -1, heard.body, 0}, heard.code == 0
	}
	return clientTold{}, false
}

func plainHearClient(nodes []impl.Node, c impl.Client, k, now int) clientTold {
	if isTime(now) {
		if turn, ok := plainTurn(nodes, c, plainLetterIn(nodes, k), now); ok {
			return turn
		}
	}
	return clientTold{nodes, c, -1, -1, 1}
}

func plainTick(c impl.Client, now int) (impl.Client, int) {
	if c.State != 1 && c.State != 2 || c.Wait < 1 || c.Wait > 8 || !isTime(now) || now < c.Due {
		return c, -1
	}
	if c.Tries >= 4 {
		c.State = 4
		return c, -1
	}
	c.Tries++
	c.Wait = []int{0, 2, 4, 6, 8, 8, 8, 8, 8}[c.Wait]
	c.Due = now + c.Wait
	return c, c.Last
}

func plainSayClient(nodes []impl.Node, c impl.Client, cid, body int) clientTold {
	m := makerOf(nodes)
	first := m.put(atomNode(cid))
	record := m.make(plainSay(c.Chan, body))
	letter := m.make(letterWay(76, first, record))
	if m.failed || c.State != 3 {
		return clientTold{nodes, c, -1, -1, 0}
	}
	c.Chan.Seq++
	return clientTold{m.nodes, c, letter, -1, 0}
}

func startCall(draw, now int) clientCall {
	return clientCall{fmt.Sprintf("StartClient with %d at %d", draw, now),
		func(a impl.Arena, c impl.Client) clientTold {
			b, c, said := impl.StartClient(a, c, draw, now)
			return clientTold{b.Nodes, c, said, -1, 0}
		},
		func(nodes []impl.Node, c impl.Client) clientTold { return plainStart(nodes, c, draw, now) }}
}

func hearCall(k, now int) clientCall {
	return clientCall{fmt.Sprintf("HearClient of %d at %d", k, now),
		func(a impl.Arena, c impl.Client) clientTold {
			b, c, said, came, code := impl.HearClient(a, c, k, now)
			return clientTold{b.Nodes, c, said, came, code}
		},
		func(nodes []impl.Node, c impl.Client) clientTold { return plainHearClient(nodes, c, k, now) }}
}

func recordSaid(cid, body int) clientCall {
	return clientCall{fmt.Sprintf("SayClient of %d and %d", cid, body),
		func(a impl.Arena, c impl.Client) clientTold {
			b, c, said := impl.SayClient(a, c, cid, body)
			return clientTold{b.Nodes, c, said, -1, 0}
		},
		func(nodes []impl.Node, c impl.Client) clientTold { return plainSayClient(nodes, c, cid, body) }}
}

func checkClient(t *testing.T, nodes []impl.Node, c impl.Client, call clientCall, want clientTold) {
	t.Helper()
	if got := call.call(arenaOf(nodes...), c); !got.is(want) {
		t.Fatalf("%s in %s of %d nodes, of %+v = %v; want %v", call.name, brief(nodes), len(nodes), c, got, want)
	}
}

// checkClientPlain holds calls against their plain ways.
func checkClientPlain(t *testing.T, nodes []impl.Node, c impl.Client, calls ...clientCall) {
	t.Helper()
	for _, call := range calls {
		checkClient(t, nodes, c, call, call.plain(nodes, c))
	}
}

// checkUnheard asks for the code 1, and all as it is.
func checkUnheard(t *testing.T, nodes []impl.Node, c impl.Client, places ...int) {
	t.Helper()
	for _, k := range places {
		checkClient(t, nodes, c, hearCall(k, 50), clientTold{nodes, c, -1, -1, 1})
	}
}

// checkSaysNothing asks for -1, and all as it is.
func checkSaysNothing(t *testing.T, nodes []impl.Node, c impl.Client, calls ...clientCall) {
	t.Helper()
	for _, call := range calls {
		checkClient(t, nodes, c, call, clientTold{nodes, c, -1, -1, 0})
	}
}

func checkTick(t *testing.T, c impl.Client, now int, want impl.Client, wantSaid int) {
	t.Helper()
	if got, said := impl.TickClient(c, now); got != want || said != wantSaid {
		t.Fatalf("TickClient(%+v, %d) = %+v, %d; want %+v, %d", c, now, got, said, want, wantSaid)
	}
}

// mustClient is what a call answers, which does something, and as its plain way does.
func mustClient(t *testing.T, nodes []impl.Node, c impl.Client, call clientCall) clientTold {
	t.Helper()
	want := call.plain(nodes, c)
	checkClient(t, nodes, c, call, want)
	if want.code != 0 || want.client == c {
		t.Fatalf("%s of %+v does nothing", call.name, c)
	}
	return want
}

// A talk is a client and its gate, as far as they came. The gate's side is told by the functions of the chapters ahead.
type talk struct {
	t         *testing.T
	nodes     []impl.Node
	client    impl.Client
	words     int // the server's
	hand      int // as the gate makes it
	both      int
	part      int // the server's
	server    int // a letter
	ack       int // a letter
	gateDraw  int
	gateSaid  int // all that was said, as the gate has it
	gateChan  impl.Chan
	helloPub  int
	firstWord int // a letter
}

// make tells what one of the chapters ahead makes, in the arena of the talk.
func (w *talk) make(c secretCall) int {
	w.t.Helper()
	var k int
	w.nodes, k = mustWords(w.t, w.nodes, c)
	return k
}

func (w *talk) put(n impl.Node) int {
	w.t.Helper()
	nodes, k := plainPut(w.nodes, n)
	if k < 0 {
		w.t.Fatalf("%v can't be put", n)
	}
	w.nodes = nodes
	return k
}

func (w *talk) do(call clientCall) clientTold {
	w.t.Helper()
	got := mustClient(w.t, w.nodes, w.client, call)
	w.nodes, w.client = got.nodes, got.client
	return got
}

// talkOf is a client that started, behind these nodes.
func talkOf(t *testing.T, mode int, nodes ...impl.Node) *talk {
	t.Helper()
	w := &talk{t: t, nodes: nodes, client: impl.ClientNew(1, 9, mode), gateDraw: 30000}
	w.firstWord = w.do(startCall(20000, 5)).said
	h := plainHelloIn(w.nodes, w.client.Hello)
	if !h.ok {
		t.Fatalf("the hello is none")
	}
	w.helloPub = h.hello.Pub
	return w
}

// answer makes the server's words and part, of the client's own hello.
func (w *talk) answer() *talk {
	w.t.Helper()
	nonce := w.put(atomNode(w.gateDraw + 1))
	secret := w.put(atomNode(w.gateDraw))
	w.words = w.make(serverCall(nonce, w.put(pubNode(secret))))
	w.both = w.put(pairNode(w.client.Hello, w.words))
	w.hand = w.make(handAsk{secret, w.helloPub, w.client.Mode, w.client.Name, w.client.Gate, w.both}.call())
	w.part = w.make(partAsk{2, w.hand, w.client.Mode, w.client.Gate, w.both}.call())
	w.server = w.make(letterCall(73, w.words, w.part))
	return w
}

// who has the client hear the answer, and the gate the client's part: it makes an ack then.
func (w *talk) who() *talk {
	w.t.Helper()
	letter := w.do(hearCall(w.server, 7)).said
	kind, parts := impl.LetterIn(arenaOf(w.nodes...), letter)
	if kind != impl.LtClient || !impl.PartOk(arenaOf(w.nodes...), 1, w.hand, w.client.Mode, w.client.Name, w.put(pairNode(w.both, w.part)), parts[0]) {
		w.t.Fatalf("the client says %d %v, which is no part of it", kind, parts)
	}
	w.gateSaid = w.put(pairNode(w.put(pairNode(w.both, w.part)), parts[0]))
	w.ack = w.make(letterCall(75, w.make(ackCall(w.hand, 11, w.gateSaid))))
	return w
}

func (w *talk) open() *talk {
	w.t.Helper()
	w.do(hearCall(w.ack, 9))
	w.gateChan = impl.ChanNew(w.make(appCall(w.hand, w.gateSaid)), impl.SideServer)
	return w
}

// gateSays makes a letter with a record of the gate.
func (w *talk) gateSays(body int) int {
	w.t.Helper()
	var record int
	w.nodes, w.gateChan, record = mustSay(w.t, w.nodes, w.gateChan, body)
	return w.make(letterCall(76, w.put(atomNode(1)), record))
}

var bothModes = []int{impl.MdCert, impl.MdPsk}

func TestP14Constants(t *testing.T) {
	got := []int{impl.ClIdle, impl.ClHello, impl.ClWho, impl.ClOpen, impl.ClFailed, impl.MaxTries}
	if want := []int{0, 1, 2, 3, 4, 4}; !slices.Equal(got, want) {
		t.Errorf("states and tries are %v; want %v", got, want)
	}
}

func TestP14NewClients(t *testing.T) {
	for _, n := range []int{0, 1, 2, 9, 10, -1, math.MinInt, math.MaxInt} {
		for _, c := range [][3]int{{n, 9, 1}, {1, n, 2}, {1, 9, n}} {
			want := impl.Client{Name: c[0], Gate: c[1], Mode: c[2]}
			if got := impl.ClientNew(c[0], c[1], c[2]); got != want {
				t.Errorf("ClientNew(%v) = %+v; want %+v", c, got, want)
			}
		}
	}
}

// What a client begins with, node by node, in the order in which it is made; in an arena of nothing, in each that has a beginning of it, and in one that has all.
func TestP14StartNodeByNode(t *testing.T) {
	of := func(name, mode, draw, hello int, brings ...impl.Node) {
		t.Helper()
		c := impl.ClientNew(name, 9, mode)
		last := len(brings) - 1
		want := impl.Client{Name: name, Gate: 9, Mode: mode, State: impl.ClHello, Draw: draw, Hello: hello, Last: last, Due: 6, Wait: 1}
		for there := range len(brings) + 1 {
			checkClient(t, brings[:there], c, startCall(draw, 5), clientTold{brings, want, last, -1, 0})
		}
		checkWords(t, brings, toldWords{
			hellos:  map[int]impl.Hello{hello: {Mode: mode, Name: name, Nonce: 0, Pub: 2}},
			letters: map[int]letterTold{last: {71, []int{hello, slices.Index(brings, atomNode(0))}}}})
		if !plainArenaOk(brings) {
			t.Errorf("the arena is not right: %v", brings)
		}
	}
	of(1, 1, 20000, 10, atomNode(20001), atomNode(20000), pubNode(1), atomNode(61), atomNode(1), atomNode(0), pairNode(2, 5), pairNode(0, 6), pairNode(4, 7), pairNode(4, 8), pairNode(3, 9),
		atomNode(71), pairNode(5, 5), pairNode(10, 12), pairNode(11, 13))
	of(4, 2, 1000, 11, atomNode(1001), atomNode(1000), pubNode(1), atomNode(61), atomNode(2), atomNode(4), atomNode(0), pairNode(2, 6), pairNode(0, 7), pairNode(5, 8), pairNode(4, 9), pairNode(3, 10),
		atomNode(71), pairNode(6, 6), pairNode(11, 13), pairNode(12, 14))
	of(0, 2, 900000, 10, atomNode(900001), atomNode(900000), pubNode(1), atomNode(61), atomNode(2), atomNode(0), pairNode(2, 5), pairNode(0, 6), pairNode(5, 7), pairNode(4, 8), pairNode(3, 9),
		atomNode(71), pairNode(5, 5), pairNode(10, 12), pairNode(11, 13))
}

// Among others, and where some of it is there in another order.
func TestP14StartAmongOthers(t *testing.T) {
	for _, nodes := range [][]impl.Node{threeSecrets, handParts, {atomNode(20000)}, {atomNode(20000), pubNode(0)}, {atomNode(0), atomNode(71), atomNode(61)}, {atomNode(0), pairNode(0, 0), atomNode(1), atomNode(20000), atomNode(20001)},
		{atomNode(20000), atomNode(20001), pubNode(0), atomNode(0), pairNode(2, 3), pairNode(1, 4)}, {atomNode(19999), pubNode(0), atomNode(20002)}} {
		for _, mode := range []int{1, 2, 0, 61, 71, 999999} {
			for _, name := range []int{1, 0, 9, 10, 999999} {
				checkClientPlain(t, nodes, impl.ClientNew(name, 9, mode), startCall(20000, 5), startCall(1000, 0))
				if told := plainStart(nodes, impl.ClientNew(name, 9, mode), 20000, 5); told.said < 0 {
					t.Fatalf("nothing is said in %v", nodes)
				}
			}
		}
	}
}

// Anew: of what a client was before, its Name, Gate and Mode stay, and nothing else.
func TestP14StartAnew(t *testing.T) {
	for _, state := range []int{impl.ClIdle, impl.ClFailed} {
		c := impl.Client{Name: 4, Gate: 7, Mode: 2, State: state, Draw: 5, Cookie: true, Hello: 6, Said: 7, Hand: 8, Last: 9, Lease: 10, Chan: saying(1, 1, 1, 1), Due: 11, Wait: 12, Tries: 13}
		got := mustClient(t, threeSecrets, c, startCall(20000, 77))
		want := impl.Client{Name: 4, Gate: 7, Mode: 2, State: impl.ClHello, Draw: 20000, Hello: got.client.Hello, Last: got.said, Due: 78, Wait: 1}
		if got.client != want || got.said != len(got.nodes)-1 || !plainHelloIn(got.nodes, want.Hello).ok {
			t.Errorf("started anew it is %+v; want %+v", got.client, want)
		}
	}
}

func TestP14StartEdges(t *testing.T) {
	c := impl.ClientNew(1, 9, 1)
	for _, draw := range []int{1000, 1001, 899999, 900000} {
		for _, now := range []int{0, 1, 99998, 99999} {
			got := mustClient(t, threeSecrets, c, startCall(draw, now))
			if got.client.Due != now+1 || got.client.Draw != draw {
				t.Fatalf("with %d at %d it is %+v", draw, now, got.client)
			}
		}
		checkSaysNothing(t, threeSecrets, c, startCall(draw, -1), startCall(draw, 100000), startCall(draw, math.MinInt), startCall(draw, math.MaxInt), startCall(draw, 1<<32))
	}
	for _, draw := range []int{999, 998, 0, -1, 900001, 999998, 999999, 1000000, math.MinInt, math.MaxInt, 1<<32 + 5000} {
		checkSaysNothing(t, threeSecrets, c, startCall(draw, 0), startCall(draw, 99999), startCall(draw, -1))
	}
	for _, state := range []int{1, 2, 3, 5, -1, 1 << 32, 4 + 1<<32, math.MinInt, math.MaxInt} {
		other := c
		other.State = state
		checkSaysNothing(t, threeSecrets, other, startCall(20000, 5))
	}
	for _, n := range []int{-1, 1000000, math.MinInt, math.MaxInt} { // no Atom has such a number
		checkSaysNothing(t, threeSecrets, impl.ClientNew(n, 9, 1), startCall(20000, 5))
		checkSaysNothing(t, threeSecrets, impl.ClientNew(1, 9, n), startCall(20000, 5))
		mustClient(t, threeSecrets, impl.ClientNew(1, n, 1), startCall(20000, 5)) // the gate's is not told yet
	}
}

// From its first word on to the end: with a cookie and without one, with both modes.
func TestP14ComesToAnEndWithItsGate(t *testing.T) {
	for _, mode := range bothModes {
		for _, withCookie := range []bool{false, true} {
			w := talkOf(t, mode, threeSecrets...)
			want := impl.Client{Name: 1, Gate: 9, Mode: mode, State: impl.ClHello, Draw: 20000, Hello: w.client.Hello, Last: w.firstWord, Due: 6, Wait: 1}
			if w.client != want {
				t.Fatalf("it begins as %+v; want %+v", w.client, want)
			}
			if withCookie {
				cookie := w.make(cookieCall(9000, 1, w.client.Hello))
				got := w.do(hearCall(w.make(letterCall(72, cookie)), 6))
				want.Cookie, want.Last, want.Due = true, got.said, 7
				checkLetterIn(t, w.nodes, got.said, letterTold{71, []int{want.Hello, cookie}})
				if w.client != want || got.came != -1 {
					t.Fatalf("with a cookie it is %+v; want %+v", w.client, want)
				}
			}
			w.answer().who()
			want.State, want.Hand, want.Said, want.Last, want.Due = impl.ClWho, w.hand, w.gateSaid, w.client.Last, 8
			if w.client != want {
				t.Fatalf("behind the server's words it is %+v; want %+v", w.client, want)
			}
			w.open()
			want.State, want.Lease, want.Chan = impl.ClOpen, 11, endAt(w.gateChan.App, impl.SideClient)
			if w.client != want {
				t.Fatalf("open it is %+v; want %+v", w.client, want)
			}
			if !impl.ArenaOk(arenaOf(w.nodes...)) {
				t.Fatalf("the arena is not right: %v", w.nodes)
			}
		}
	}
}

// What comes with the server's words, node by node: both, the hand secret, all that was said, the own part, its letter, and all with that.
func TestP14ServerNodeByNode(t *testing.T) {
	for _, mode := range bothModes {
		w := talkOf(t, mode).answer()
		got := mustClient(t, w.nodes, w.client, hearCall(w.server, 7))
		at := func(n impl.Node) int { return slices.Index(w.nodes, n) }
		end := len(w.nodes)
		said := pairNode(w.both, w.part)
		zero, one := at(atomNode(0)), at(atomNode(1))
		hash := at(hashNode(w.both))
		if hash < 0 || one < 0 || mode == 2 && at(atomNode(3019)) < 0 {
			t.Fatalf("of %v the gate made other terms", w.nodes)
		}
		want := slices.Concat(w.nodes, []impl.Node{said})
		if mode == impl.MdPsk {
			want = append(want, kdfNode(w.hand, one), atomNode(11), kdfNode(w.hand, end+2), hashNode(end), macNode(end+3, end+4), pairNode(end+5, zero), pairNode(zero, end+6), pairNode(zero, end+7), sealNode(end+1, end+8),
				atomNode(74), pairNode(end+9, zero), pairNode(end+10, end+11), pairNode(end, end+9))
		} else {
			ca, sixty := at(atomNode(1000)), at(atomNode(60))
			want = append(want, kdfNode(w.hand, one), atomNode(2001), pubNode(end+2), pairNode(end+3, zero), pairNode(one, end+4), pairNode(sixty, end+5), signNode(ca, end+6),
				atomNode(81), hashNode(end), pairNode(end+9, zero), pairNode(end+8, end+10), signNode(end+2, end+11), atomNode(11), kdfNode(w.hand, end+13), macNode(end+14, end+9),
				pairNode(end+15, zero), pairNode(end+12, end+16), pairNode(end+7, end+17), sealNode(end+1, end+18), atomNode(74), pairNode(end+19, zero), pairNode(end+20, end+21), pairNode(end, end+19))
		}
		if !slices.Equal(got.nodes, want) || got.said != len(want)-2 || got.client.Said != len(want)-1 || got.client.Last != got.said {
			t.Fatalf("behind the server's words come %v, said %d; want %v", got.nodes[end:], got.said, want[end:])
		}
		// Once more, where all of it is there.
		checkClient(t, want, w.client, hearCall(w.server, 7), clientTold{want, got.client, got.said, -1, 0})
	}
}

// In an arena that is not right all else may stand ahead of both and of the client's secret: they are put then, both first.
func TestP14BothIsMadeFirst(t *testing.T) {
	w := talkOf(t, impl.MdPsk)
	w.gateDraw = 10000 // the gate's secret is the first one of their TmDh, by its text and by its place
	w.answer()
	nodes := slices.Concat(w.nodes, []impl.Node{atomNode(70000), atomNode(70001)})
	places := everyPlace(len(nodes))
	for i, at := range []int{w.both, slices.Index(nodes, atomNode(20000))} {
		last := len(nodes) - 2 + i
		places[at], places[last] = last, at
	}
	ahead := moved(nodes, places)
	cut := ahead[:len(ahead)-2]
	got := mustClient(t, cut, w.client, hearCall(w.server, 7))
	if !slices.Equal(got.nodes[:len(ahead)], ahead) || got.client.Hand != w.hand {
		t.Errorf("behind %d nodes come %v", len(cut), got.nodes[len(cut):])
	}
	other := slices.Clone(ahead)
	other[len(cut)], other[len(cut)+1] = other[len(cut)+1], other[len(cut)]
	checkUnheard(t, other, w.client, w.server)
}

// Where both, or the hand secret, is not there yet, the client makes it, in its order; but then nobody can have made a part of it.
func TestP14ServerWithNothingThere(t *testing.T) {
	w := talkOf(t, impl.MdPsk)
	nonce, pub := w.put(atomNode(31001)), w.put(pubNode(w.put(atomNode(31000))))
	words := w.make(serverCall(nonce, pub))
	for _, part := range []int{0, w.client.Hello, words, w.put(sealNode(0, 1))} {
		checkUnheard(t, w.nodes, w.client, w.make(letterCall(73, words, part)))
	}
}

// What a client says again, and when: nobody answers.
func TestP14NobodyAnswers(t *testing.T) {
	for _, mode := range bothModes {
		for _, behind := range []string{"hello", "retry", "who"} {
			w := talkOf(t, mode)
			switch behind {
			case "retry":
				w.do(hearCall(w.make(letterCall(72, w.put(atomNode(77)))), 5))
			case "who":
				w.answer()
				w.do(hearCall(w.server, 5))
			}
			first, said := w.client, map[int]bool{}
			c := first
			for now := 5; now < 200; now++ {
				want, wantSaid := plainTick(c, now)
				checkTick(t, c, now, want, wantSaid)
				if wantSaid >= 0 {
					said[now] = true
					if wantSaid != first.Last {
						t.Fatalf("at %d it says %d, not %d", now, wantSaid, first.Last)
					}
				}
				if want.State == impl.ClFailed && c.State != impl.ClFailed && now != 28 {
					t.Fatalf("it fails at %d", now)
				}
				c = want
			}
			if len(said) != 4 || !said[6] || !said[8] || !said[12] || !said[20] {
				t.Fatalf("behind %s it says it again at %v", behind, said)
			}
			want := first
			want.State, want.Tries, want.Wait, want.Due = impl.ClFailed, 4, 8, 28
			if c != want {
				t.Fatalf("failed it is %+v; want %+v", c, want)
			}
			again := mustClient(t, w.nodes, c, startCall(25000, 300))
			if again.client.State != impl.ClHello || again.client.Tries != 0 || again.client.Cookie || again.client.Draw != 25000 {
				t.Fatalf("started anew it is %+v", again.client)
			}
		}
	}
}

// Each wait is twice as much as the one ahead, 8 at most, and what is due is due that much later.
func TestP14TickEdges(t *testing.T) {
	base := impl.Client{Name: 1, Gate: 9, Mode: 1, Draw: 5, Cookie: true, Hello: 6, Said: 7, Hand: 8, Last: 9, Lease: 10, Chan: saying(1, 1, 1, 1)}
	for _, state := range []int{0, 1, 2, 3, 4, 5, -1, math.MinInt, math.MaxInt, 1 << 32, 1 + 1<<32} {
		for _, wait := range []int{0, 1, 2, 3, 4, 5, 7, 8, 9, 10, 16, -1, math.MinInt, math.MaxInt, 1 << 32, 1 + 1<<32} {
			for _, tries := range []int{0, 1, 3, 4, 5, -1, math.MinInt, math.MaxInt} {
				for _, now := range []int{0, 1, 50, 99998, 99999, -1, 100000, math.MinInt, math.MaxInt} {
					for _, due := range []int{0, 50, 51, 49, 99999, 100000, -1, math.MinInt, math.MaxInt} {
						c := base
						c.State, c.Wait, c.Tries, c.Due = state, wait, tries, due
						want, said := plainTick(c, now)
						checkTick(t, c, now, want, said)
					}
				}
			}
		}
	}
	of := func(state, tries, wait, due, now int) (impl.Client, int) {
		c := base
		c.State, c.Tries, c.Wait, c.Due = state, tries, wait, due
		return c, now
	}
	for _, state := range []int{impl.ClHello, impl.ClWho} {
		for wait, next := range map[int]int{1: 2, 2: 4, 3: 6, 4: 8, 5: 8, 7: 8, 8: 8} {
			c, now := of(state, 3, wait, 50, 50)
			want := c
			want.Tries, want.Wait, want.Due = 4, next, 50+next
			checkTick(t, c, now, want, 9)
			checkTick(t, c, 49, c, -1)
			want.Due = 99999 + next
			checkTick(t, c, 99999, want, 9)
			c.Tries, want = 4, c
			want.State, want.Tries = impl.ClFailed, 4
			checkTick(t, c, now, want, -1)
			checkTick(t, c, 49, c, -1)
			checkTick(t, want, now, want, -1)
		}
	}
	for _, last := range []int{-1, 0, 5000, math.MinInt} { // it is said as it is
		c, now := of(impl.ClHello, 0, 1, 3, 4)
		c.Last = last
		want := c
		want.Tries, want.Wait, want.Due = 1, 2, 6
		checkTick(t, c, now, want, last)
	}
}

// stages are a talk after each of its steps, with letters of every kind in its arena; the clients are what it was.
type stages struct {
	w       *talk
	clients map[string]impl.Client
	letters map[int]int // by kind
}

func allStages(t *testing.T, mode int) stages {
	t.Helper()
	w := talkOf(t, mode, threeSecrets...)
	s := stages{w: w, clients: map[string]impl.Client{"idle": impl.ClientNew(1, 9, mode), "hello": w.client}, letters: map[int]int{71: w.firstWord}}
	s.letters[72] = w.make(letterCall(72, w.make(cookieCall(9000, 1, w.client.Hello))))
	w.do(hearCall(s.letters[72], 6))
	s.clients["cookie"] = w.client
	s.letters[73] = w.answer().server
	w.who()
	s.clients["who"] = w.client
	s.letters[74], s.letters[75] = w.client.Last, w.ack
	w.open()
	s.clients["open"] = w.client
	s.letters[76] = w.gateSays(2)
	failed := s.clients["hello"]
	failed.State = impl.ClFailed
	s.clients["failed"] = failed
	return s
}

// Each kind of letter in each state: with all others than those that the chapter names nothing is to be done.
func TestP14EachLetterInEachState(t *testing.T) {
	heard := map[string][]int{"hello": {72, 73}, "cookie": {73}, "who": {75}, "open": {76}}
	for _, mode := range bothModes {
		s := allStages(t, mode)
		for name, c := range s.clients {
			for kind, k := range s.letters {
				call := hearCall(k, 50)
				if slices.Contains(heard[name], kind) {
					mustClient(t, s.w.nodes, c, call)
					for _, now := range []int{0, 99999} {
						mustClient(t, s.w.nodes, c, hearCall(k, now))
					}
				} else {
					checkUnheard(t, s.w.nodes, c, k)
				}
				for _, now := range []int{-1, 100000, math.MinInt, math.MaxInt} {
					checkClient(t, s.w.nodes, c, hearCall(k, now), clientTold{s.w.nodes, c, -1, -1, 1})
				}
			}
			for _, state := range []int{5, -1, 1 + 1<<32, math.MinInt, math.MaxInt} {
				other := c
				other.State = state
				for _, k := range s.letters {
					checkUnheard(t, s.w.nodes, other, k)
				}
			}
		}
	}
}

// Terms that are no letters, and places that are none.
func TestP14WhatIsNoLetter(t *testing.T) {
	for _, mode := range bothModes {
		s := allStages(t, mode)
		for _, c := range s.clients {
			checkUnheard(t, s.w.nodes, c, outside...)
			checkUnheard(t, s.w.nodes, c, len(s.w.nodes), len(s.w.nodes)+1)
			checkUnheard(t, nil, c, -1, 0, 1)
			for k := range s.w.nodes {
				if plainLetterIn(s.w.nodes, k).kind == 0 {
					checkUnheard(t, s.w.nodes, c, k)
				}
			}
		}
	}
}

// A retry that comes late: there is a cookie already, or the client is in another state. What it says again stays.
func TestP14LateRetries(t *testing.T) {
	w := talkOf(t, impl.MdCert)
	first := w.make(letterCall(72, w.put(atomNode(77))))
	second := w.make(letterCall(72, w.put(atomNode(78))))
	w.do(hearCall(first, 6))
	checkUnheard(t, w.nodes, w.client, first, second)
	ticked, _ := impl.TickClient(w.client, 7)
	checkUnheard(t, w.nodes, ticked, first, second)
	w.answer().who()
	checkUnheard(t, w.nodes, w.client, first, second)
	w.open()
	checkUnheard(t, w.nodes, w.client, first, second)
	failed := w.client
	failed.State = impl.ClFailed
	checkUnheard(t, w.nodes, failed, first, second)
	// Started anew it has none.
	again := mustClient(t, w.nodes, failed, startCall(25000, 60))
	mustClient(t, again.nodes, again.client, hearCall(second, 61))
}

// Any term may be a cookie; it is said as it came, with the Hello. Between times the tries begin anew.
func TestP14Retries(t *testing.T) {
	w := talkOf(t, impl.MdPsk, wordParts...)
	late, _ := impl.TickClient(w.client, 6)
	late, _ = impl.TickClient(late, 8)
	for cookie := range w.nodes {
		nodes, k := mustWords(t, w.nodes, letterCall(72, cookie))
		for _, c := range []impl.Client{w.client, late} {
			got := mustClient(t, nodes, c, hearCall(k, 33))
			want := c
			want.Cookie, want.Last, want.Due, want.Wait, want.Tries = true, got.said, 34, 1, 0
			if got.client != want {
				t.Fatalf("with the cookie %d it is %+v; want %+v", cookie, got.client, want)
			}
			checkLetterIn(t, got.nodes, got.said, letterTold{71, []int{c.Hello, cookie}})
		}
	}
	nodes, k := mustWords(t, w.nodes, letterCall(72, 0))
	for _, hello := range append(slices.Clone(outside), len(nodes)+3, len(nodes)+2) {
		c := w.client
		c.Hello = hello
		checkClientPlain(t, nodes, c, hearCall(k, 33))
	}
	for _, hello := range []int{-1, 3000, len(nodes) + 2, math.MaxInt} {
		c := w.client
		c.Hello = hello
		checkUnheard(t, nodes, c, k)
	}
}

// Server's words with a part of another side, name, mode, hand secret, or of other words; with words that are none; to a client of another hello, key, name or gate.
func TestP14ServersThatAreOthers(t *testing.T) {
	for _, mode := range bothModes {
		w := talkOf(t, mode, threeSecrets...).answer()
		mustClient(t, w.nodes, w.client, hearCall(w.server, 7))
		other := talkOf(t, mode, w.nodes...) // the same hello
		other.gateDraw = 40000
		other.answer()
		w.nodes = other.nodes
		parts := []int{0, 2, w.words, w.both, w.hand, w.server, other.part, other.words}
		for _, p := range []partAsk{{1, w.hand, mode, 9, w.both}, {1, w.hand, mode, 1, w.both}, {3, w.hand, mode, 9, w.both}, {2, other.hand, mode, 9, w.both}, {2, w.hand, mode, 9, other.both}, {2, w.hand, mode, 9, w.words},
			{2, w.hand, mode, 9, w.client.Hello}, {2, w.hand, 3 - mode, 9, w.both}, {2, w.hand, impl.MdCert, 8, w.both}, {2, w.hand, impl.MdCert, 1, w.both}, {2, 1, mode, 9, w.both}} {
			parts = append(parts, w.make(p.call()))
		}
		for _, part := range parts {
			checkUnheard(t, w.nodes, w.client, w.make(letterCall(73, w.words, part)))
		}
		// Words that are none, with the part of those that are.
		pub := plainServerIn(w.nodes, w.words).pub
		for _, words := range []int{0, w.client.Hello, w.both, w.part, w.make(serverCall(w.put(atomNode(999)), pub)), w.make(serverCall(0, 0)), other.words, w.make(letterCall(62, 0, pub, pub)), w.make(letterCall(63, 0, pub))} {
			checkUnheard(t, w.nodes, w.client, w.make(letterCall(73, words, w.part)))
		}
		for _, change := range []func(c *impl.Client){
			func(c *impl.Client) { c.Hello = 0 },
			func(c *impl.Client) { c.Hello = -1 },
			func(c *impl.Client) { c.Hello = len(w.nodes) + 9 },
			func(c *impl.Client) { c.Draw = 20001 },
			func(c *impl.Client) { c.Draw = 30001 },
			func(c *impl.Client) { c.Draw = -1 },
			func(c *impl.Client) { c.Draw = 1000000 },
			func(c *impl.Client) { c.Mode = 3 - mode },
		} {
			c := w.client
			change(&c)
			checkUnheard(t, w.nodes, c, w.server)
		}
		// A name that is the secret's of two, or that the certificate tells.
		for _, name := range []int{0, 2, 8, -1, 10} {
			c := w.client
			c.Gate = name
			checkUnheard(t, w.nodes, c, w.server)
			c = w.client
			c.Name = name
			if mode == impl.MdPsk || !isSomebody(name) {
				checkUnheard(t, w.nodes, c, w.server)
			} else {
				mustClient(t, w.nodes, c, hearCall(w.server, 7))
			}
		}
		c := w.client // the gate's own secret makes the same one
		c.Draw = 30000
		checkClientPlain(t, w.nodes, c, hearCall(w.server, 7))
	}
}

// Without certificates no name is asked for but by the secret of two; any mode but both is one without either.
func TestP14OtherModes(t *testing.T) {
	for _, mode := range []int{0, 3, 77} {
		w := talkOfMode(t, mode)
		got := mustClient(t, w.nodes, w.client, hearCall(w.server, 7))
		if got.client.State != impl.ClWho || got.client.Mode != mode {
			t.Errorf("with the mode %d it is %+v", mode, got.client)
		}
	}
}

// talkOfMode is a talk up to the server's words, of a mode of which no hello is read.
func talkOfMode(t *testing.T, mode int) *talk {
	t.Helper()
	w := &talk{t: t, client: impl.ClientNew(1, 9, mode), gateDraw: 30000}
	w.do(startCall(20000, 5))
	w.helloPub = slices.Index(w.nodes, pubNode(slices.Index(w.nodes, atomNode(20000))))
	return w.answer()
}

// An ack of other words, of another hand secret, or of no lease.
func TestP14AcksThatAreOthers(t *testing.T) {
	for _, mode := range bothModes {
		w := talkOf(t, mode, threeSecrets...).answer().who()
		for _, lease := range []int{0, 1, 10, 12, 13, 999999} {
			nodes, ack := mustWords(t, w.nodes, ackCall(w.hand, lease, w.gateSaid))
			nodes, k := mustWords(t, nodes, letterCall(75, ack))
			got := mustClient(t, nodes, w.client, hearCall(k, 9))
			if got.client.Lease != lease || got.client.State != impl.ClOpen || got.said != -1 || got.came != -1 {
				t.Fatalf("with the lease %d it is %+v", lease, got.client)
			}
		}
		acks := []int{0, 2, w.part, w.ack, w.gateSaid, w.hand}
		for _, c := range []secretCall{ackCall(w.hand, 11, w.both), ackCall(w.hand, 11, w.words), ackCall(0, 11, w.gateSaid), ackCall(w.both, 11, w.gateSaid), ackCall(w.hand, 11, w.put(pairNode(w.both, w.part)))} {
			acks = append(acks, w.make(c))
		}
		key := plainFound(w.nodes, plainAckKey(w.hand))
		hash := slices.Index(w.nodes, hashNode(w.gateSaid))
		m := makerOf(w.nodes)
		for _, within := range []int{m.list(hash), m.list(hash, hash), m.list(w.hand, hash), m.list(m.put(atomNode(11)), w.gateSaid), m.list(m.put(atomNode(11)), hash, hash), hash} {
			acks = append(acks, m.put(sealNode(key, within)))
		}
		w.nodes = m.nodes
		for _, ack := range acks {
			checkUnheard(t, w.nodes, w.client, w.make(letterCall(75, ack)))
		}
		for _, change := range []func(c *impl.Client){
			func(c *impl.Client) { c.Said = w.both },
			func(c *impl.Client) { c.Said = -1 },
			func(c *impl.Client) { c.Said = len(w.nodes) },
			func(c *impl.Client) { c.Hand = 0 },
			func(c *impl.Client) { c.Hand = -1 },
			func(c *impl.Client) { c.Hand = len(w.nodes) },
		} {
			c := w.client
			change(&c)
			checkUnheard(t, w.nodes, c, w.ack)
		}
	}
}

// What comes with an ack, node by node.
func TestP14AckNodeByNode(t *testing.T) {
	w := talkOf(t, impl.MdPsk).answer().who()
	hash, end := slices.Index(w.nodes, hashNode(w.gateSaid)), len(w.nodes)
	want := slices.Concat(w.nodes, []impl.Node{atomNode(20), kdfNode(w.hand, end), kdfNode(end+1, hash)})
	client := w.client
	client.State, client.Lease, client.Chan = impl.ClOpen, 11, endAt(end+2, impl.SideClient)
	for there := range 4 {
		checkClient(t, want[:end+there], w.client, hearCall(w.ack, 9), clientTold{want, client, -1, -1, 0})
	}
}

// Both speak on the channel: what each says the other one hears, once; whose Cid is told is not asked.
func TestP14OpenClientsSpeak(t *testing.T) {
	for _, mode := range bothModes {
		w := talkOf(t, mode, threeSecrets...).answer().who().open()
		for i := range 5 {
			body := i % 3
			before := w.client
			got := w.do(recordSaid(4+i, body))
			kind, parts := impl.LetterIn(arenaOf(w.nodes...), got.said)
			if kind != impl.LtRecord || w.nodes[parts[0]] != atomNode(4+i) || w.client.Chan.Seq != i+1 {
				t.Fatalf("said is %d %v of %+v", kind, parts, w.client)
			}
			before.Chan.Seq++
			if w.client != before {
				t.Fatalf("saying makes it %+v; want %+v", w.client, before)
			}
			heard := plainHear(w.nodes, w.gateChan, parts[1])
			checkHear(t, w.nodes, w.gateChan, parts[1], heard)
			if heard.code != 0 || heard.body != body {
				t.Fatalf("the gate hears %v", heard)
			}
			w.gateChan = heard.end
			checkUnheard(t, w.nodes, w.client, got.said) // its own
			k := w.gateSays(body)
			before = w.client
			came := w.do(hearCall(k, 10+i))
			before.Chan.Now = windowWith(fromTo(0, i)...)
			if came.came != body || came.said != -1 || w.client != before {
				t.Fatalf("heard is %v; want %d, and %+v", came, body, before)
			}
			checkUnheard(t, w.nodes, w.client, k) // once
		}
		// Across a turn of the gate, and in another order than they were said in.
		late := w.gateSays(0)
		w.gateChan, _ = impl.TurnOn(w.gateChan)
		first, second := w.gateSays(1), w.gateSays(2)
		for _, c := range [][2]int{{second, 2}, {late, 0}, {first, 1}} {
			if came := w.do(hearCall(c[0], 99)); came.came != c[1] {
				t.Fatalf("heard is %d; want %d", came.came, c[1])
			}
			checkUnheard(t, w.nodes, w.client, c[0])
		}
		if w.client.Chan.Heard != 1 {
			t.Errorf("the channel heard %+v", w.client.Chan)
		}
	}
}

// Records that don't open, of another app, or of an epoch that is neither; letters in which there is no record.
func TestP14RecordsThatAreNotHeard(t *testing.T) {
	w := talkOf(t, impl.MdPsk, threeSecrets...).answer().who().open()
	app := w.gateChan.App
	right := w.gateSays(2)
	mustClient(t, w.nodes, w.client, hearCall(right, 9))
	for _, end := range []impl.Chan{endAt(app, 1), endAt(0, 2), endAt(w.hand, 2), saying(app, 2, 2, 0), saying(app, 2, 8, 5)} {
		nodes, _, record := mustSay(t, w.nodes, end, 2)
		nodes, k := mustWords(t, nodes, letterCall(76, 0, record))
		checkUnheard(t, nodes, w.client, k)
	}
	for record := range w.nodes {
		if _, is := plainHeadAt(w.nodes, record); !is {
			nodes, k := mustWords(t, w.nodes, letterCall(76, 0, record))
			checkUnheard(t, nodes, w.client, k)
		}
	}
	for _, wrong := range []impl.Chan{{}, endAt(-1, 1), endAt(app, 0), endAt(app, 3), saying(app, 1, 9, 0), saying(app, 1, 0, 10001), hearing(app, 1, 0, windowOf(0, 0), newWindow)} {
		c := w.client
		c.Chan = wrong
		checkUnheard(t, w.nodes, c, right)
		checkSaysNothing(t, w.nodes, c, recordSaid(1, 2))
	}
	// A letter whose first part is no Atom is none.
	_, parts := impl.LetterIn(arenaOf(w.nodes...), right)
	nodes, k := mustWords(t, w.nodes, letterCall(76, w.hand, parts[1]))
	checkUnheard(t, nodes, w.client, k)
}

// What an open client says, node by node: the Atom of its Cid, the record with all that it is made of, then the letter.
func TestP14SayNodeByNode(t *testing.T) {
	client := impl.Client{Name: 1, State: impl.ClOpen, Chan: saying(1, 1, 0, 0), Due: 5, Last: 3}
	after := client
	after.Chan.Seq = 1
	want := slices.Concat(threeSecrets, []impl.Node{atomNode(5), atomNode(1), kdfNode(1, 4), atomNode(0), pairNode(2, 6), pairNode(6, 7), pairNode(6, 8), sealNode(5, 9), pairNode(10, 6), pairNode(6, 11), pairNode(6, 12),
		atomNode(76), pairNode(13, 6), pairNode(3, 15), pairNode(14, 16)})
	for there := 3; there <= len(want); there++ {
		checkClient(t, want[:there], client, recordSaid(5, 2), clientTold{want, after, len(want) - 1, -1, 0})
	}
	for _, cid := range []int{0, 1, 76, 1000, 9999, 999999} {
		for _, body := range []int{0, 1, 2, 3, 4, 5, 6, 7} {
			checkClientPlain(t, threeSecrets, client, recordSaid(cid, body))
			checkClientPlain(t, want, client, recordSaid(cid, body))
		}
	}
	for _, cid := range []int{-1, 1000000, math.MinInt, math.MaxInt} {
		checkSaysNothing(t, threeSecrets, client, recordSaid(cid, 2))
	}
	for _, body := range outside {
		checkSaysNothing(t, threeSecrets, client, recordSaid(5, body))
	}
	for _, state := range []int{0, 1, 2, 4, 5, -1, 3 + 1<<32, math.MinInt, math.MaxInt} {
		other := client
		other.State = state
		checkSaysNothing(t, threeSecrets, other, recordSaid(5, 2))
	}
	full := client
	full.Chan.Seq = 9999
	last := mustClient(t, threeSecrets, full, recordSaid(5, 2))
	checkSaysNothing(t, last.nodes, last.client, recordSaid(5, 2))
	// The app, too, may be what the call itself brings ahead of the record.
	brought := client
	brought.Chan.App = 3
	checkClientPlain(t, threeSecrets, brought, recordSaid(5, 2), recordSaid(5, 3))
	if plainSayClient(threeSecrets, brought, 5, 2).said < 0 {
		t.Errorf("nothing is said of an app at 3")
	}
	brought.Chan.App = 4
	checkSaysNothing(t, threeSecrets, brought, recordSaid(5, 2))
}

// fill has Atoms behind these, till there is room for as many more as room tells.
func fill(nodes []impl.Node, room int) []impl.Node {
	nodes = slices.Clone(nodes)
	for i := 0; len(nodes) < impl.MaxNodes-room; i++ {
		nodes = append(nodes, atomNode(50000+i))
	}
	return nodes
}

// checkClientRoom has room for none of what a call brings up to more than all of it: room for some is room for none.
func checkClientRoom(t *testing.T, nodes []impl.Node, c impl.Client, call clientCall, code int) {
	t.Helper()
	brings := len(call.plain(nodes, c).nodes) - len(nodes)
	if brings == 0 {
		t.Fatalf("%s brings nothing", call.name)
	}
	for room := range brings + 2 {
		full := fill(nodes, room)
		want := clientTold{full, c, -1, -1, code}
		if room >= brings {
			want = call.plain(full, c)
			if len(want.nodes) != len(full)+brings || want.client == c {
				t.Fatalf("with room for %d %s brings %d, not %d", room, call.name, len(want.nodes)-len(full), brings)
			}
		}
		checkClient(t, full, c, call, want)
		over := slices.Concat(fill(nodes, 0), []impl.Node{atomNode(90000), hashNode(0)})
		checkClient(t, over, c, call, clientTold{over, c, -1, -1, code})
	}
}

func TestP14Room(t *testing.T) {
	for _, mode := range bothModes {
		checkClientRoom(t, nil, impl.ClientNew(1, 9, mode), startCall(20000, 5), 0)
		checkClientRoom(t, threeSecrets, impl.ClientNew(4, 9, mode), startCall(20000, 5), 0)
		checkClientRoom(t, []impl.Node{atomNode(0), atomNode(71), atomNode(20000)}, impl.ClientNew(1, 9, mode), startCall(20000, 5), 0)
		w := talkOf(t, mode, threeSecrets...)
		retry := w.make(letterCall(72, w.make(cookieCall(9000, 1, w.client.Hello))))
		checkClientRoom(t, w.nodes, w.client, hearCall(retry, 6), 1)
		w.answer()
		checkClientRoom(t, w.nodes, w.client, hearCall(w.server, 6), 1)
		w.who()
		checkClientRoom(t, w.nodes, w.client, hearCall(w.ack, 6), 1)
		w.open()
		checkClientRoom(t, w.nodes, w.client, recordSaid(5, 2), 0)
		// A record is heard without room.
		k := w.gateSays(2)
		for _, nodes := range [][]impl.Node{fill(w.nodes, 0), slices.Concat(fill(w.nodes, 0), []impl.Node{hashNode(0)})} {
			if got := mustClient(t, nodes, w.client, hearCall(k, 6)); got.came != 2 {
				t.Fatalf("in a full arena %d is heard", got.came)
			}
		}
	}
}

// Some of what comes with the server's words is there, in any beginning of it; nothing stays where the rest has no room.
func TestP14RoomWithSomeThere(t *testing.T) {
	for _, mode := range bothModes {
		w := talkOf(t, mode, threeSecrets...).answer()
		all := plainHearClient(w.nodes, w.client, w.server, 7)
		for there := len(w.nodes); there < len(all.nodes); there++ {
			missing := len(all.nodes) - there
			for _, room := range []int{0, 1, missing - 1, missing} {
				nodes := fill(all.nodes[:there], room)
				want := clientTold{nodes, w.client, -1, -1, 1}
				if room == missing {
					want = plainHearClient(nodes, w.client, w.server, 7)
					if want.code != 0 {
						t.Fatalf("with room for %d nothing is done", room)
					}
				}
				checkClient(t, nodes, w.client, hearCall(w.server, 7), want)
			}
		}
	}
}

// A node that would be right nowhere, at each place of a talk: each client answers each letter as the plain way does.
func TestP14WrongNodes(t *testing.T) {
	for _, mode := range bothModes {
		s := allStages(t, mode)
		for i, wrong := range wrongNodes {
			for at := i % 3; at < len(s.w.nodes); at += 3 {
				nodes := slices.Clone(s.w.nodes)
				nodes[at] = wrong
				for _, c := range s.clients {
					for _, k := range s.letters {
						checkClientPlain(t, nodes, c, hearCall(k, 50))
					}
					checkClientPlain(t, nodes, c, startCall(20000, 5), recordSaid(5, 2))
				}
			}
			behind := slices.Concat(s.w.nodes, []impl.Node{wrong})
			if plainArenaOk(behind) {
				t.Fatalf("%v is right", wrong)
			}
			for name, c := range s.clients {
				if name == "open" {
					mustClient(t, behind, c, hearCall(s.letters[76], 50))
				}
				if name == "hello" {
					mustClient(t, behind, c, hearCall(s.letters[73], 50))
				}
			}
		}
	}
}

// drawClient is mostly one of those of a talk, with some fields changed.
func drawClient(draw *rand.Rand, s stages) impl.Client {
	names := []string{"idle", "hello", "cookie", "who", "open", "failed"}
	c := s.clients[names[draw.Intn(len(names))]]
	place := func() int { return draw.Intn(len(s.w.nodes)+4) - 2 }
	switch draw.Intn(14) {
	case 0:
		c.State = draw.Intn(7) - 1
	case 1:
		c.Hello = place()
	case 2:
		c.Said = place()
	case 3:
		c.Hand = place()
	case 4:
		c.Last = place()
	case 5:
		c.Chan = drawEnd(draw, len(s.w.nodes))
	case 6:
		c.Name = draw.Intn(12) - 1
	case 7:
		c.Gate = draw.Intn(12) - 1
	case 8:
		c.Mode = draw.Intn(4)
	case 9:
		c.Draw = []int{20000, 20001, 30000, -1, 0, 1000000}[draw.Intn(6)]
	case 10:
		c.Cookie = !c.Cookie
	}
	return c
}

// Talks of which one node is drawn anew, and clients with fields drawn anew: each answers each letter as the plain way does.
func TestP14DrawnTalks(t *testing.T) {
	draw := rand.New(rand.NewSource(28))
	talks := []stages{allStages(t, impl.MdCert), allStages(t, impl.MdPsk)}
	for range 1200 {
		s := talks[draw.Intn(2)]
		nodes := slices.Clone(s.w.nodes)
		if draw.Intn(2) == 0 {
			drawAnew(draw, nodes, draw.Intn(len(nodes)), drawPartNode)
		}
		c := drawClient(draw, s)
		now := []int{0, 50, 99999, 100000, -1}[draw.Intn(5)]
		for _, k := range s.letters {
			checkClientPlain(t, nodes, c, hearCall(k, now))
		}
		checkClientPlain(t, nodes, c, startCall(990+draw.Intn(20), now), recordSaid(draw.Intn(12)-1, draw.Intn(len(nodes)+3)-1), hearCall(draw.Intn(len(nodes)), now))
	}
}

// The nodes of a talk in orders that are drawn: many stand ahead of what they have.
func TestP14DrawnOrders(t *testing.T) {
	draw := rand.New(rand.NewSource(29))
	for range 150 {
		s := allStages(t, 1+draw.Intn(2))
		base := s.w.nodes
		places := everyPlace(len(base))
		for range 1 + draw.Intn(3) {
			x, y := draw.Intn(len(base)), draw.Intn(len(base))
			places[x], places[y] = places[y], places[x]
		}
		nodes := moved(base, places)
		for _, c := range s.clients {
			c.Hello, c.Said, c.Hand, c.Last, c.Chan.App = places[c.Hello], places[c.Said], places[c.Hand], places[c.Last], places[c.Chan.App]
			for _, k := range s.letters {
				checkClientPlain(t, nodes, c, hearCall(places[k], 50))
			}
			checkClientPlain(t, nodes, c, recordSaid(3, places[2]), startCall(20000, 5))
		}
	}
}

// Drawn arenas, many of them not right, with letters in them.
func TestP14DrawnArenas(t *testing.T) {
	draw := rand.New(rand.NewSource(30))
	for range 1500 {
		nodes := drawNodes(draw, 12, func(draw *rand.Rand, k int) impl.Node {
			if draw.Intn(6) == 0 {
				return atomNode(71 + draw.Intn(6))
			}
			return drawChanNode(draw, k)
		})
		at := func() int { return draw.Intn(len(nodes)+3) - 1 }
		with, letter := plainWords(nodes, []int{71 + draw.Intn(6)}, at(), at())
		if letter < 0 || draw.Intn(2) == 0 {
			with, letter = plainWords(nodes, []int{71 + draw.Intn(6)}, at())
		}
		c := impl.Client{Name: draw.Intn(11), Gate: draw.Intn(11), Mode: draw.Intn(4), State: draw.Intn(5), Draw: draw.Intn(3), Cookie: draw.Intn(3) == 0, Hello: at(), Said: at(), Hand: at(), Last: at(), Chan: drawEnd(draw, len(nodes))}
		for _, k := range []int{letter, at()} {
			checkClientPlain(t, with, c, hearCall(k, 5), recordSaid(draw.Intn(4)-1, at()), startCall(1000+draw.Intn(3), 5))
		}
	}
}

// A drawn way between a client and its gate: whatever comes, and however often, the client comes to its end with just this gate, or fails.
func TestP14DrawnWays(t *testing.T) {
	draw := rand.New(rand.NewSource(31))
	ends := map[int]int{}
	for range 120 {
		mode := 1 + draw.Intn(2)
		w := talkOf(t, mode, threeSecrets...)
		first := w.client
		w.answer()
		retry := w.make(letterCall(72, w.make(cookieCall(9000, 1, first.Hello))))
		letters := []int{w.firstWord, retry, w.server}
		now := 5
		for range 40 {
			switch draw.Intn(3) {
			case 0:
				now += draw.Intn(4)
				want, said := plainTick(w.client, now)
				checkTick(t, w.client, now, want, said)
				w.client = want
			default:
				got := plainHearClient(w.nodes, w.client, letters[draw.Intn(len(letters))], now)
				if got.code == 0 && got.client.State == impl.ClWho && w.client.State == impl.ClHello {
					w.who()
					letters = append(letters, w.ack)
					continue
				}
				if got.client.State == impl.ClOpen && (got.client.Hand != w.hand || got.client.Said != w.gateSaid || got.client.Lease != 11) {
					t.Fatalf("it comes to another end: %+v", got.client)
				}
				w.nodes, w.client = got.nodes, got.client
			}
		}
		ends[w.client.State]++
	}
	if ends[impl.ClOpen] == 0 || ends[impl.ClFailed] == 0 {
		t.Errorf("clients end in %v", ends)
	}
}

// Who hears all that a client and its gate say has neither the hand secret nor the app.
func TestP14WhoHearsATalk(t *testing.T) {
	for _, mode := range bothModes {
		s := allStages(t, mode)
		var known []int
		for _, k := range s.letters {
			known = append(known, k)
		}
		a := arenaOf(s.w.nodes...)
		for _, secret := range []int{s.w.hand, s.w.gateChan.App, 2, slices.Index(s.w.nodes, atomNode(20000))} {
			if impl.Derives(a, known, secret) {
				t.Errorf("who hears all has %d of %v", secret, s.w.nodes)
			}
		}
	}
}

func TestP14AnswersAreNewMemory(t *testing.T) {
	for _, mode := range bothModes {
		s := allStages(t, mode)
		spares := slices.Repeat([]impl.Node{{Kind: 55, Num: 55, A: 55, B: 55}}, 60)
		room := slices.Concat(s.w.nodes, spares)
		for _, c := range s.clients {
			calls := []clientCall{startCall(20000, 5), startCall(5, 5), startCall(40000, 5), recordSaid(5, 2), recordSaid(5, -1), recordSaid(-1, 2), hearCall(-1, 5), hearCall(0, 5)}
			for _, k := range s.letters {
				calls = append(calls, hearCall(k, 5), hearCall(k, -1))
			}
			for _, call := range calls {
				got := call.call(impl.Arena{Nodes: room[:len(s.w.nodes)]}, c)
				nodes := got.nodes[:cap(got.nodes)]
				for i := range nodes {
					nodes[i] = impl.Node{Kind: -9}
				}
				if !slices.Equal(room, slices.Concat(s.w.nodes, spares)) {
					t.Fatalf("by %s the arena, or the room behind it, became %s", call.name, brief(room))
				}
				checkClientPlain(t, s.w.nodes, c, call)
			}
		}
	}
}
