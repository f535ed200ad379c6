package tests

import (
	"fmt"
	"math"
	"math/rand"
	"slices"
	"strings"
	"testing"

	"loop.example/g00466/impl"
)

// sameWorld holds worlds against each other, list by list: an empty list and nil are the same.
func sameWorld(w, v impl.World) bool {
	return slices.Equal(w.Arena.Nodes, v.Arena.Nodes) && slices.Equal(w.Clients, v.Clients) && slices.Equal(w.Addrs, v.Addrs) && sameGate(w.Gate, v.Gate) &&
		slices.Equal(w.Net, v.Net) && w.Now == v.Now && w.Draw == v.Draw && slices.Equal(w.Known, v.Known) && slices.Equal(w.Taken, v.Taken) &&
		slices.Equal(w.Begun, v.Begun) && slices.Equal(w.Done, v.Done) && slices.Equal(w.Sent, v.Sent) && slices.Equal(w.Got, v.Got) && slices.Equal(w.Codes, v.Codes)
}

func worldCopy(w impl.World) impl.World {
	w.Arena.Nodes, w.Clients, w.Addrs, w.Gate = slices.Clone(w.Arena.Nodes), slices.Clone(w.Clients), slices.Clone(w.Addrs), gateCopy(w.Gate)
	w.Net, w.Known, w.Taken = slices.Clone(w.Net), slices.Clone(w.Known), slices.Clone(w.Taken)
	w.Begun, w.Done, w.Sent, w.Got, w.Codes = slices.Clone(w.Begun), slices.Clone(w.Done), slices.Clone(w.Sent), slices.Clone(w.Got), slices.Clone(w.Codes)
	return w
}

// tellWorld leaves the arena out, of which only the number of nodes is told.
func tellWorld(w impl.World) string {
	nodes := len(w.Arena.Nodes)
	w.Arena = impl.Arena{}
	return fmt.Sprintf("%d nodes, %+v", nodes, w)
}

func eventOf(kind, at, num int) impl.Event { return impl.Event{Kind: kind, At: at, Num: num} }

func forgeOf(at, num int, text string) impl.Event {
	return impl.Event{Kind: impl.EvForge, At: at, Num: num, Text: text}
}

func plainEventOk(e impl.Event) bool {
	return isWithin(e.Kind, 1, 10) && e.At >= 0 && e.Num >= 0 && (e.Text == "" || e.Kind == 9 && len(e.Text) < 4001)
}

// A plainLife tells a world step by step, by the plain ways of the chapters ahead.
type plainLife struct{ impl.World }

func (l *plainLife) put(way plainWay) int {
	nodes, k := way(l.Arena.Nodes)
	l.Arena.Nodes = nodes
	return k
}

func (l *plainLife) know(k int) {
	if k != -1 {
		l.Known = append(l.Known, k)
	}
}

func (l *plainLife) say(from, to, k int) {
	if k != -1 && len(l.Net) < 12 {
		l.Net = append(l.Net, impl.Letter{From: from, To: to, Term: k})
	}
	l.know(k)
}

func (l *plainLife) isTaken(names ...int) bool {
	for _, name := range names {
		if slices.Contains(l.Taken, name) {
			return true
		}
	}
	return false
}

// bodyNote has as Safe that of the end that came of this Name and App.
func (l *plainLife) bodyNote(n impl.Note) impl.Note {
	for _, end := range l.Done {
		n.Safe = n.Safe || end.Name == n.Name && end.App == n.App && end.Safe
	}
	return n
}

func (l *plainLife) clientHears(i, k int) int {
	before := l.Clients[i]
	told := plainHearClient(l.Arena.Nodes, before, k, l.Now)
	c := told.client
	l.Arena.Nodes, l.Clients[i] = told.nodes, c
	note := impl.Note{Name: c.Name, Peer: c.Gate, App: c.Chan.App, Body: c.Said, Safe: !l.isTaken(c.Name, c.Gate)}
	if before.State == 1 && c.State == 2 {
		note.App = l.put(func(nodes []impl.Node) ([]impl.Node, int) { return plainApp(nodes, c.Hand, c.Said) })
		l.Begun = append(l.Begun, note)
	}
	if before.State == 2 && c.State == 3 {
		l.Done = append(l.Done, note)
	}
	l.say(l.Addrs[i], 99, told.said)
	if told.came != -1 {
		head, _ := plainHeadAt(l.Arena.Nodes, plainLetterIn(l.Arena.Nodes, k).parts[1])
		l.Got = append(l.Got, l.bodyNote(impl.Note{Name: c.Name, Peer: c.Gate, App: c.Chan.App, Epoch: head.epoch, Seq: head.seq, Body: told.came}))
	}
	return told.code
}

func (l *plainLife) gateHears(from, k int) int {
	before := gateCopy(l.Gate)
	letter := plainLetterIn(l.Arena.Nodes, k)
	told := plainHearGate(l.Arena.Nodes, l.Gate, mailOf(from, k), l.Draw, l.Now)
	l.Arena.Nodes, l.Gate = told.nodes, told.gate
	for at, s := range l.Gate.Sesss {
		if at < len(before.Sesss) && before.Sesss[at].State == 1 && s.State == 2 {
			l.Done = append(l.Done, impl.Note{Name: 9, Peer: s.Name, App: s.Chan.App, Epoch: s.Cid, Body: s.Said, Safe: !l.isTaken(9, s.Name)})
		}
	}
	for _, m := range told.said {
		l.say(99, m.Addr, m.Term)
	}
	if told.came == -1 {
		return told.code
	}
	cid, _ := plainNum(told.nodes, letter.parts[0])
	head, _ := plainHeadAt(told.nodes, letter.parts[1])
	s := l.Gate.Sesss[plainOpenOf(l.Gate, cid)]
	l.Got = append(l.Got, l.bodyNote(impl.Note{Name: 9, Peer: s.Name, App: s.Chan.App, Epoch: head.epoch, Seq: head.seq, Body: told.came}))
	for at, s := range l.Gate.Sesss { // whoever said something has another Seq
		if was := before.Sesss[at].Chan; s.Chan.Seq != was.Seq {
			p := plainPacketIn(told.nodes, told.came).packet
			p.Hops--
			_, body := packetCall(p).plain(told.nodes)
			l.Sent = append(l.Sent, l.bodyNote(impl.Note{Name: 9, Peer: s.Name, App: s.Chan.App, Epoch: was.Epoch, Seq: was.Seq, Body: body}))
		}
	}
	return told.code
}

func (l *plainLife) carry(at int) int {
	letter := l.Net[at]
	l.Net = append(slices.Clone(l.Net[:at]), l.Net[at+1:]...)
	if letter.To == 99 {
		return l.gateHears(letter.From, letter.Term)
	}
	for i, addr := range l.Addrs {
		if addr == letter.To {
			return l.clientHears(i, letter.Term)
		}
	}
	return 1
}

func (l *plainLife) start(i int) int {
	told := plainStart(l.Arena.Nodes, l.Clients[i], l.Draw, l.Now)
	l.Arena.Nodes, l.Clients[i] = told.nodes, told.client
	l.say(l.Addrs[i], 99, told.said)
	return min(1, max(0, -told.said))
}

func (l *plainLife) tick(i int) {
	c, said := plainTick(l.Clients[i], l.Now)
	l.Clients[i] = c
	l.say(l.Addrs[i], 99, said)
}

func (l *plainLife) cidOf(i int) int {
	for _, s := range l.Gate.Sesss {
		if s.Chan.App == l.Clients[i].Chan.App {
			return s.Cid
		}
	}
	return 0
}

func (l *plainLife) send(i, num int) int {
	c := l.Clients[i]
	p := packetOf(c.Lease, num%40, 3, num%1000)
	if num%2 != 0 {
		p.Src = num % 256
	}
	nodes, body := packetCall(p).plain(l.Arena.Nodes)
	told := plainSayClient(nodes, c, l.cidOf(i), body)
	if body == -1 || told.said == -1 {
		return 1
	}
	l.Arena.Nodes, l.Clients[i] = told.nodes, told.client
	l.Sent = append(l.Sent, l.bodyNote(impl.Note{Name: c.Name, Peer: c.Gate, App: c.Chan.App, Epoch: c.Chan.Epoch, Seq: c.Chan.Seq, Body: body}))
	l.say(l.Addrs[i], 99, told.said)
	return 0
}

func (l *plainLife) turn(i, num int) int {
	if num%2 != 0 {
		g, ok := plainTurnGate(l.Gate, l.cidOf(i))
		l.Gate = g
		return map[bool]int{true: 0, false: 1}[ok]
	}
	c := &l.Clients[i].Chan
	if l.Clients[i].State != 3 || !isWithin(c.Epoch, 0, 7) || c.Epoch > c.Heard {
		return 1
	}
	c.Epoch, c.Seq = c.Epoch+1, 0
	return 0
}

func (l *plainLife) forge(e impl.Event) int {
	nodes, k, ok := plainRead(l.Arena.Nodes, e.Text)
	if !ok {
		return 1
	}
	if had := plainReach(nodes, l.Known); had == nil || !had[k] {
		return 1
	}
	l.Arena.Nodes = nodes
	to := 99
	if e.At < 2 {
		to = l.Addrs[e.At]
	}
	l.say(e.Num%10, to, k)
	return 0
}

func (l *plainLife) take(i, num int) int {
	name, peers := l.Clients[i].Name, []int{9}
	if num%2 != 0 {
		name, peers = 9, []int{1, 2}
	}
	l.know(l.put(func(nodes []impl.Node) ([]impl.Node, int) { return plainLong(nodes, name) }))
	for _, peer := range peers {
		l.know(l.put(func(nodes []impl.Node) ([]impl.Node, int) { return plainPsk(nodes, name, peer) }))
	}
	l.Taken = append(l.Taken, name)
	return 0
}

func (l *plainLife) code(e impl.Event) int {
	i, at := e.At%2, e.Num%12
	if isWithin(e.Kind, 2, 4) && at >= len(l.Net) {
		return 9
	}
	switch e.Kind {
	case 1:
		return l.start(i)
	case 2:
		return l.carry(at)
	case 3:
		l.Net = append(slices.Clone(l.Net[:at]), l.Net[at+1:]...)
	case 4:
		if len(l.Net) < 12 {
			l.Net = append(l.Net, l.Net[at])
		}
	case 5:
		l.Now += 1 + e.Num%4
		l.tick(0)
		l.tick(1)
		l.Gate = plainIdle(l.Gate, l.Now)
	case 6:
		return l.send(i, e.Num)
	case 7:
		return l.turn(i, e.Num)
	case 8:
		l.Addrs[i] = [][]int{{3, 5, 7}, {4, 6, 8}}[i][e.Num%3]
	case 9:
		return l.forge(e)
	case 10:
		return l.take(i, e.Num)
	}
	return 0
}

func isPlainSteady(w impl.World) bool {
	return len(w.Clients) == 2 && len(w.Addrs) == 2 && isWithin(w.Now, 0, 90000) && isWithin(w.Draw, 1000, 800000)
}

func plainStepWorld(w impl.World, e impl.Event) impl.World {
	l := plainLife{worldCopy(w)}
	if !plainEventOk(e) || !isPlainSteady(w) {
		return l.World
	}
	code := l.code(e)
	l.Codes = append(l.Codes, code)
	l.Draw += 10
	return l.World
}

func plainWorldNew(mode int, routes []impl.Route) impl.World {
	w := plainLife{impl.World{Addrs: []int{1, 2}, Gate: impl.Gate{Name: 9, Next: 1, Routes: routes}, Draw: 10000, Taken: []int{3}}}
	w.Clients = []impl.Client{{Name: 1, Gate: 9, Mode: mode}, {Name: 2, Gate: 9, Mode: mode}}
	for _, name := range []int{1, 2, 3, 9} {
		w.know(w.put(func(nodes []impl.Node) ([]impl.Node, int) { return plainCert(nodes, name) }))
	}
	for _, n := range []int{2003, 3039, 5000, 5001, 5002, 5003} {
		w.know(w.put(func(nodes []impl.Node) ([]impl.Node, int) { return plainAtom(nodes, n) }))
	}
	return w.World
}

func checkWorld(t *testing.T, what string, got, want impl.World) {
	t.Helper()
	if !sameWorld(got, want) {
		t.Fatalf("%s is %s; want %s; nodes %s; want %s", what, tellWorld(got), tellWorld(want), brief(got.Arena.Nodes), brief(want.Arena.Nodes))
	}
}

// checkStep holds a step against the plain way, and answers it.
func checkStep(t *testing.T, w impl.World, e impl.Event) impl.World {
	t.Helper()
	want := plainStepWorld(w, e)
	checkWorld(t, fmt.Sprintf("%s, by %+v,", tellWorld(w), e), impl.StepWorld(w, e), want)
	return want
}

func checkNoStep(t *testing.T, w impl.World, events ...impl.Event) {
	t.Helper()
	for _, e := range events {
		checkWorld(t, fmt.Sprintf("%s, by %+v,", tellWorld(w), e), impl.StepWorld(w, e), w)
	}
}

// steps are steps one by one; each has this code, when one is told.
func steps(t *testing.T, w impl.World, code int, events ...impl.Event) impl.World {
	t.Helper()
	for _, e := range events {
		w = checkStep(t, w, e)
		if last := w.Codes[len(w.Codes)-1]; last != code {
			t.Fatalf("the code of %+v is %d; want %d, in %s", e, last, code, tellWorld(w))
		}
	}
	return w
}

// carryAll carries as long as something is between.
func carryAll(t *testing.T, w impl.World) impl.World {
	t.Helper()
	for len(w.Net) > 0 {
		w = steps(t, w, 0, eventOf(impl.EvCarry, 0, 0))
	}
	return w
}

var twoRoutes = []impl.Route{routeOf(16, 4, 2), routeOf(32, 3, 5)}

// openWorld is a life in which both clients are open, and nothing is between.
func openWorld(t *testing.T, mode int) impl.World {
	t.Helper()
	w := steps(t, impl.WorldNew(mode, twoRoutes), 0, eventOf(impl.EvStart, 0, 0), eventOf(impl.EvStart, 1, 0))
	w = carryAll(t, w)
	for i, c := range w.Clients {
		if c.State != impl.ClOpen || c.Lease != 10+i {
			t.Fatalf("the client at %d is %+v", i, c)
		}
	}
	return w
}

func lastCode(w impl.World) int { return w.Codes[len(w.Codes)-1] }

func TestP18Constants(t *testing.T) {
	got := []int{impl.EvStart, impl.EvCarry, impl.EvLose, impl.EvTwice, impl.EvTick, impl.EvSend, impl.EvTurn, impl.EvRoam, impl.EvForge, impl.EvTake, impl.MaxNet, impl.MaxEvents, impl.Clients, impl.GateName, impl.GateAddr}
	if want := []int{1, 2, 3, 4, 5, 6, 7, 8, 9, 10, 12, 50, 2, 9, 99}; !slices.Equal(got, want) {
		t.Errorf("constants of a life are %v; want %v", got, want)
	}
}

func TestP18NewWorlds(t *testing.T) {
	for _, mode := range []int{1, 2, 0, 3, -1, math.MaxInt} {
		for _, routes := range [][]impl.Route{nil, twoRoutes, slices.Repeat(twoRoutes, 9), {routeOf(-1, 99, 99)}} {
			checkWorld(t, "a new world", impl.WorldNew(mode, routes), plainWorldNew(mode, routes))
		}
	}
	w := impl.WorldNew(1, nil)
	var nums []int
	for _, k := range w.Known {
		if n, ok := impl.NumOf(w.Arena, k); ok {
			nums = append(nums, n)
		} else if name, _, ok := impl.CertIn(w.Arena, k); ok {
			nums = append(nums, -name)
		}
	}
	if !slices.Equal(nums, []int{-1, -2, -3, -9, 2003, 3039, 5000, 5001, 5002, 5003}) || !impl.ArenaOk(w.Arena) || !impl.GateOk(w.Arena, w.Gate) {
		t.Errorf("known are %v", nums)
	}
	// What is not known can't be made.
	for _, secret := range []impl.Node{atomNode(1000), atomNode(2001), atomNode(2002), atomNode(2009)} {
		if impl.Derives(w.Arena, w.Known, slices.Index(w.Arena.Nodes, secret)) {
			t.Errorf("%v is known", secret)
		}
	}
}

func TestP18EventOk(t *testing.T) {
	long := strings.Repeat("x", 4000)
	for kind := -1; kind <= 12; kind++ {
		for _, n := range []int{0, 1, 11, 12, 1000000, math.MaxInt, -1, math.MinInt} {
			for _, text := range []string{"", "x", long, long + "x"} {
				for _, e := range []impl.Event{{Kind: kind, At: n, Text: text}, {Kind: kind, Num: n, Text: text}} {
					if got := impl.EventOk(e); got != plainEventOk(e) {
						t.Errorf("EventOk(%d, %d, %d, %d bytes) = %v", e.Kind, e.At, e.Num, len(text), got)
					}
				}
			}
		}
	}
	for _, kind := range []int{9 + 1<<32, math.MinInt, math.MaxInt} {
		if impl.EventOk(eventOf(kind, 0, 0)) {
			t.Errorf("the kind %d is right", kind)
		}
	}
	if !impl.EventOk(forgeOf(0, 0, long)) || impl.EventOk(forgeOf(0, 0, long+"x")) || impl.EventOk(impl.Event{Kind: impl.EvCarry, Text: "x"}) {
		t.Errorf("texts are not as they are asked for")
	}
}

// Both clients start, all that is said is carried, and packets come out: one by one, and run.
func TestP18ALife(t *testing.T) {
	for _, mode := range bothModes {
		events := []impl.Event{eventOf(impl.EvStart, 0, 0), eventOf(impl.EvStart, 1, 0)}
		for range 12 {
			events = append(events, eventOf(impl.EvCarry, 0, 0))
		}
		events = append(events, eventOf(impl.EvSend, 0, 20), eventOf(impl.EvSend, 1, 50), eventOf(impl.EvSend, 0, 11))
		for range 5 {
			events = append(events, eventOf(impl.EvCarry, 0, 0))
		}
		w := impl.WorldNew(mode, twoRoutes)
		for _, e := range events[:17] {
			w = steps(t, w, 0, e)
		}
		for _, e := range events[17:] {
			w = checkStep(t, w, e)
		}
		run, ok := impl.RunWorld(mode, twoRoutes, events)
		if !ok || !sameWorld(run, w) {
			t.Fatalf("run it is %s, %v; want %s", tellWorld(run), ok, tellWorld(w))
		}
		if len(w.Begun) != 2 || len(w.Done) != 4 || len(w.Sent) != 4 || len(w.Got) != 4 || w.Gate.Drops != 1 || len(w.Gate.Outs) != 1 || w.Gate.Outs[0] != (impl.Out{Route: 2, Packet: packetOf(10, 20, 2, 20)}) {
			t.Fatalf("it ends as %s", tellWorld(w))
		}
		if want := []int{0, 0, 0, 0, 9}; !slices.Equal(w.Codes[17:], want) {
			t.Fatalf("codes are %v; want %v at the end", w.Codes, want)
		}
		for _, n := range slices.Concat(w.Begun, w.Done, w.Sent, w.Got) {
			if !n.Safe || n.App != w.Clients[0].Chan.App && n.App != w.Clients[1].Chan.App {
				t.Fatalf("noted is %+v", n)
			}
		}
		for i, c := range w.Clients {
			for _, n := range []impl.Note{w.Begun[i], w.Done[slices.IndexFunc(w.Done, func(n impl.Note) bool { return n.Name == c.Name })]} {
				if want := (impl.Note{Name: c.Name, Peer: 9, App: c.Chan.App, Body: c.Said, Safe: true}); n != want {
					t.Fatalf("noted is %+v; want %+v", n, want)
				}
			}
			s := w.Gate.Sesss[i]
			if want := (impl.Note{Name: 9, Peer: c.Name, App: c.Chan.App, Epoch: s.Cid, Body: c.Said, Safe: true}); !slices.Contains(w.Done, want) {
				t.Fatalf("done are %+v; want %+v among them", w.Done, want)
			}
		}
		if w.Draw != 10000+10*len(events) || w.Now != 0 {
			t.Fatalf("it ends as %s", tellWorld(w))
		}
	}
}

// Each event's code, and what it does.
func TestP18Starts(t *testing.T) {
	for _, mode := range bothModes {
		w := steps(t, impl.WorldNew(mode, nil), 0, eventOf(impl.EvStart, 0, 5), eventOf(impl.EvStart, 3, 0))
		if want := []impl.Letter{{From: 1, To: 99, Term: w.Clients[0].Last}, {From: 2, To: 99, Term: w.Clients[1].Last}}; !slices.Equal(w.Net, want) || w.Clients[0].Draw != 10000 || w.Clients[1].Draw != 10010 {
			t.Fatalf("it is %s", tellWorld(w))
		}
		if !slices.Equal(w.Known[10:], []int{w.Net[0].Term, w.Net[1].Term}) {
			t.Fatalf("known are %v", w.Known)
		}
		steps(t, w, 1, eventOf(impl.EvStart, 0, 0), eventOf(impl.EvStart, 1, 0))
		failed := worldCopy(w)
		failed.Clients[1].State = impl.ClFailed
		steps(t, failed, 0, eventOf(impl.EvStart, math.MaxInt, 0))
		full := worldCopy(failed)
		full.Arena.Nodes = fill(full.Arena.Nodes, 3)
		steps(t, full, 1, eventOf(impl.EvStart, 1, 0))
	}
}

func TestP18LettersCarriedLostAndTwice(t *testing.T) {
	w := steps(t, impl.WorldNew(1, nil), 0, eventOf(impl.EvStart, 0, 0), eventOf(impl.EvStart, 1, 0))
	first, second := w.Net[0], w.Net[1]
	three := []int{impl.EvCarry, impl.EvLose, impl.EvTwice}
	for _, kind := range three {
		for _, num := range []int{2, 3, 11, 14, 23, 12*1000 + 5, math.MaxInt - math.MaxInt%12 + 2 - 12} {
			if got := steps(t, w, 9, eventOf(kind, 0, num)); !slices.Equal(got.Net, w.Net) {
				t.Fatalf("without a letter it is %s", tellWorld(got))
			}
		}
		steps(t, impl.WorldNew(1, nil), 9, eventOf(kind, 0, 0), eventOf(kind, 1, 12))
		for _, num := range []int{0, 1, 12, 13, 12*1000 + 1} {
			steps(t, w, 0, eventOf(kind, num%3, num))
		}
	}
	if got := steps(t, w, 0, eventOf(impl.EvLose, 0, 12)); !slices.Equal(got.Net, []impl.Letter{second}) || len(got.Known) != len(w.Known) {
		t.Fatalf("with one lost it is %s", tellWorld(got))
	}
	if got := steps(t, w, 0, eventOf(impl.EvTwice, 0, 0)); !slices.Equal(got.Net, []impl.Letter{first, second, first}) || len(got.Known) != len(w.Known) {
		t.Fatalf("with one twice it is %s", tellWorld(got))
	}
	got := steps(t, w, 0, eventOf(impl.EvCarry, 0, 13))
	if got.Net[0] != first || got.Net[1].From != 99 || got.Net[1].To != 2 || len(got.Net) != 2 || got.Known[len(got.Known)-1] != got.Net[1].Term {
		t.Fatalf("with one carried it is %s", tellWorld(got))
	}
	// Nobody is there; or it is nothing that who is there hears.
	for to, code := range map[int]int{0: 1, 3: 1, 9: 1, 98: 1, 100: 1, -1: 1, math.MaxInt: 1, 1: 1, 2: 1} {
		v := worldCopy(w)
		v.Net[0].To = to
		if gone := steps(t, v, code, eventOf(impl.EvCarry, 0, 0)); !slices.Equal(gone.Net, v.Net[1:]) || len(gone.Arena.Nodes) != len(v.Arena.Nodes) {
			t.Fatalf("to %d it is %s", to, tellWorld(gone))
		}
	}
	// Where two are at one address the first one hears.
	both := steps(t, w, 0, eventOf(impl.EvCarry, 0, 0))
	both.Addrs = []int{7, 7}
	both.Net[1].To = 7
	if got := steps(t, both, 0, eventOf(impl.EvCarry, 0, 1)); !got.Clients[0].Cookie || got.Net[1].From != 7 {
		t.Fatalf("of two at one address it is %s", tellWorld(got))
	}
}

// As many letters are between as there may be; what is said is known all the same.
func TestP18RoomBetween(t *testing.T) {
	w := openWorld(t, impl.MdPsk)
	for len(w.Net) < 11 {
		w = steps(t, w, 0, eventOf(impl.EvSend, 0, 20))
	}
	first := w.Net[0].Term
	for n := range 3 {
		before := w
		w = steps(t, w, 0, eventOf(impl.EvSend, 1, 2*n))
		if len(w.Net) != 12 || len(w.Known) != len(before.Known)+1 || len(w.Sent) != len(before.Sent)+1 || w.Clients[1].Chan.Seq != before.Clients[1].Chan.Seq+1 {
			t.Fatalf("with %d between it is %s", len(before.Net), tellWorld(w))
		}
	}
	if got := steps(t, w, 0, eventOf(impl.EvTwice, 0, 0)); !slices.Equal(got.Net, w.Net) {
		t.Fatalf("with one twice it is %s", tellWorld(got))
	}
	text, ok := impl.TermText(w.Arena, w.Known[0])
	if got := steps(t, w, 0, forgeOf(5, 5, text)); !ok || !slices.Equal(got.Net, w.Net) || got.Known[len(got.Known)-1] != w.Known[0] {
		t.Fatalf("with one forged it is %s", tellWorld(got))
	}
	less := steps(t, w, 0, eventOf(impl.EvLose, 0, 11))
	if got := steps(t, less, 0, eventOf(impl.EvTwice, 0, 0)); len(got.Net) != 12 || got.Net[11].Term != first {
		t.Fatalf("with one twice it is %s", tellWorld(got))
	}
	// A letter that is taken out makes room for what is said to it.
	if got := steps(t, w, 0, eventOf(impl.EvCarry, 0, 11)); len(got.Net) > 12 {
		t.Fatalf("it is %s", tellWorld(got))
	}
	// More than there may be: places from MaxNet on are none.
	many := worldCopy(w)
	many.Net = slices.Repeat(many.Net, 3)
	if got := steps(t, many, 0, eventOf(impl.EvCarry, 0, 13), eventOf(impl.EvLose, 0, 11), eventOf(impl.EvTwice, 0, 30)); len(got.Net) != 34 {
		t.Fatalf("of many it is %s", tellWorld(got))
	}
}

func TestP18Ticks(t *testing.T) {
	w := steps(t, impl.WorldNew(2, nil), 0, eventOf(impl.EvStart, 0, 0), eventOf(impl.EvStart, 1, 0))
	for num, now := range map[int]int{0: 1, 1: 2, 2: 3, 3: 4, 4: 1, 7: 4, 1002: 3} {
		got := steps(t, w, 0, eventOf(impl.EvTick, num, num))
		if got.Now != now || len(got.Net) != 4 || got.Net[2] != w.Net[0] || got.Net[3] != w.Net[1] || len(got.Known) != len(w.Known)+2 {
			t.Fatalf("by %d it is %s", num, tellWorld(got))
		}
	}
	// Nobody answers: both fail, and start anew.
	for range 14 {
		w = steps(t, w, 0, eventOf(impl.EvTick, 0, 3))
	}
	if w.Clients[0].State != impl.ClFailed || w.Clients[1].State != impl.ClFailed {
		t.Fatalf("it is %s", tellWorld(w))
	}
	steps(t, w, 0, eventOf(impl.EvStart, 0, 0))
	// Who is not heard is let go.
	open := openWorld(t, impl.MdCert)
	for i, sessions := range []int{2, 2, 2, 2, 2, 0} {
		open = steps(t, open, 0, eventOf(impl.EvTick, 1, 3))
		if len(open.Gate.Sesss) != sessions || len(open.Gate.Pool) != sessions {
			t.Fatalf("at %d, behind %d ticks, it is %s", open.Now, i+1, tellWorld(open))
		}
	}
}

func TestP18Sends(t *testing.T) {
	for _, mode := range bothModes {
		w := openWorld(t, mode)
		for _, c := range []struct {
			num int
			p   impl.Packet
		}{{0, packetOf(10, 0, 3, 0)}, {20, packetOf(10, 20, 3, 20)}, {1010, packetOf(10, 10, 3, 10)}, {11, packetOf(11, 11, 3, 11)}, {257, packetOf(1, 17, 3, 257)}, {266, packetOf(10, 26, 3, 266)}, {12011, packetOf(235, 11, 3, 11)}, {522, packetOf(10, 2, 3, 522)}} {
			got := steps(t, w, 0, eventOf(impl.EvSend, 0, c.num))
			if sent := impl.Note(got.Sent[0]); sent != (impl.Note{Name: 1, Peer: 9, App: w.Clients[0].Chan.App, Body: sent.Body, Safe: true}) || plainPacketIn(got.Arena.Nodes, sent.Body).packet != c.p {
				t.Fatalf("sent is %+v: %v", sent, plainPacketIn(got.Arena.Nodes, sent.Body))
			}
			if num, _ := impl.NumOf(got.Arena, plainLetterIn(got.Arena.Nodes, got.Net[0].Term).parts[0]); num != 1 {
				t.Fatalf("its Cid is %d", num)
			}
		}
		// The other one's, with its Cid and Lease.
		got := steps(t, w, 0, eventOf(impl.EvSend, 1, 2))
		if p := plainPacketIn(got.Arena.Nodes, got.Sent[0].Body).packet; p != packetOf(11, 2, 3, 2) || got.Sent[0].Name != 2 {
			t.Fatalf("sent is %+v", got.Sent)
		}
		// From one to itself, and from one to the other, through the gate: sent twice each, got twice each.
		got = carryAll(t, steps(t, w, 0, eventOf(impl.EvSend, 0, 10), eventOf(impl.EvSend, 1, 10)))
		if len(got.Sent) != 4 || len(got.Got) != 4 {
			t.Fatalf("it is %s", tellWorld(got))
		}
		last := got.Got[3]
		if last.Name != 1 || last.Peer != 9 || plainPacketIn(got.Arena.Nodes, last.Body).packet != packetOf(11, 10, 2, 10) || !last.Safe {
			t.Fatalf("got are %+v", got.Got)
		}
		// Not open, nothing is said, and the arena is as it is.
		for _, state := range []int{0, 1, 2, 4} {
			v := worldCopy(w)
			v.Clients[0].State = state
			if got := steps(t, v, 1, eventOf(impl.EvSend, 0, 777), eventOf(impl.EvSend, 0, 778)); len(got.Arena.Nodes) != len(v.Arena.Nodes) || len(got.Sent) != 0 || len(got.Net) != 0 {
				t.Fatalf("in the state %d it is %s", state, tellWorld(got))
			}
		}
		for _, lease := range []int{-1, 256, math.MaxInt} {
			v := worldCopy(w)
			v.Clients[0].Lease = lease
			steps(t, v, 1, eventOf(impl.EvSend, 0, 20))
			steps(t, v, 0, eventOf(impl.EvSend, 0, 21))
		}
		v := worldCopy(w)
		v.Clients[0].Chan.Seq = 10000
		steps(t, v, 1, eventOf(impl.EvSend, 0, 20))
		// Without its session the Cid is 0, with which nobody hears it.
		v = worldCopy(w)
		v.Gate = impl.GateNew(9, nil)
		v = steps(t, v, 0, eventOf(impl.EvSend, 0, 20))
		steps(t, v, 1, eventOf(impl.EvCarry, 0, 0))
		// Without room nothing is said, and nothing stays of the packet.
		for room := range 30 {
			v := worldCopy(w)
			v.Arena.Nodes = fill(v.Arena.Nodes, room)
			got := checkStep(t, v, eventOf(impl.EvSend, 0, 777))
			if lastCode(got) == 1 && len(got.Arena.Nodes) != len(v.Arena.Nodes) {
				t.Fatalf("with room for %d come %d nodes", room, len(got.Arena.Nodes)-len(v.Arena.Nodes))
			}
		}
	}
}

func TestP18Turns(t *testing.T) {
	w := openWorld(t, impl.MdPsk)
	client := steps(t, w, 0, eventOf(impl.EvTurn, 0, 0))
	if client.Clients[0].Chan.Epoch != 1 || client.Clients[1].Chan.Epoch != 0 || client.Gate.Sesss[0].Chan.Epoch != 0 {
		t.Fatalf("it is %s", tellWorld(client))
	}
	steps(t, client, 1, eventOf(impl.EvTurn, 0, 2)) // ahead of what it heard
	gate := steps(t, w, 0, eventOf(impl.EvTurn, 1, 1))
	if gate.Gate.Sesss[1].Chan.Epoch != 1 || gate.Gate.Sesss[0].Chan.Epoch != 0 || gate.Clients[1].Chan.Epoch != 0 {
		t.Fatalf("it is %s", tellWorld(gate))
	}
	steps(t, gate, 1, eventOf(impl.EvTurn, 1, 3))
	// Each turns in its turn, and all that is said comes through.
	both := carryAll(t, steps(t, client, 0, eventOf(impl.EvSend, 0, 10)))
	both = carryAll(t, steps(t, both, 0, eventOf(impl.EvTurn, 0, 1), eventOf(impl.EvSend, 0, 10)))
	if got := both.Got[len(both.Got)-1]; both.Clients[0].Chan.Heard != 1 || got.Name != 1 || got.Epoch != 1 || got.Seq != 0 || both.Got[0].Epoch != 1 {
		t.Fatalf("it is %s", tellWorld(both))
	}
	steps(t, both, 0, eventOf(impl.EvTurn, 0, 0), eventOf(impl.EvTurn, 0, 1))
	fresh := steps(t, impl.WorldNew(1, nil), 1, eventOf(impl.EvTurn, 0, 0), eventOf(impl.EvTurn, 0, 1), eventOf(impl.EvTurn, 1, 1))
	half := steps(t, fresh, 0, eventOf(impl.EvStart, 0, 0), eventOf(impl.EvCarry, 0, 0), eventOf(impl.EvCarry, 0, 0), eventOf(impl.EvCarry, 0, 0))
	if len(half.Gate.Sesss) != 1 {
		t.Fatalf("it is %s", tellWorld(half))
	}
	steps(t, half, 1, eventOf(impl.EvTurn, 0, 0), eventOf(impl.EvTurn, 0, 1), eventOf(impl.EvTurn, 1, 0), eventOf(impl.EvTurn, 1, 1))
}

func TestP18Roams(t *testing.T) {
	w := openWorld(t, impl.MdCert)
	for at, addrs := range map[int][]int{0: {3, 5, 7}, 1: {4, 6, 8}, 6: {3, 5, 7}, 7: {4, 6, 8}} {
		for num := range 7 {
			got := steps(t, w, 0, eventOf(impl.EvRoam, at, num))
			if got.Addrs[at%2] != addrs[num%3] || got.Addrs[1-at%2] != 2-at%2 {
				t.Fatalf("by %d and %d addresses are %v", at, num, got.Addrs)
			}
		}
	}
	steps(t, w, 0, eventOf(impl.EvRoam, math.MaxInt, math.MaxInt), eventOf(impl.EvRoam, math.MaxInt-1, math.MaxInt-1))
	// What it says comes from there, and what is said to it goes there then.
	roamed := carryAll(t, steps(t, w, 0, eventOf(impl.EvRoam, 0, 1), eventOf(impl.EvSend, 0, 10)))
	if roamed.Gate.Sesss[0].Addr != 5 || roamed.Got[len(roamed.Got)-1].Name != 1 {
		t.Fatalf("it is %s", tellWorld(roamed))
	}
}

func textOfTerm(t *testing.T, w impl.World, k int) string {
	t.Helper()
	text, ok := impl.TermText(w.Arena, k)
	if !ok {
		t.Fatalf("no text of %d", k)
	}
	return text
}

// Texts that are read and can be made of what is known, that are read and can't, and that are not read.
func TestP18Forges(t *testing.T) {
	w := steps(t, impl.WorldNew(1, nil), 0, eventOf(impl.EvStart, 0, 0), eventOf(impl.EvCarry, 0, 0))
	retry := textOfTerm(t, w, w.Net[0].Term)
	own := treeText(treeOf(impl.TmPair, treeOf(impl.TmHash, atomTree(5003)), treeOf(impl.TmPub, atomTree(2003)))) // of what who hears all has
	for _, text := range []string{retry, own, treeText(atomTree(999)), treeText(treeOf(impl.TmSign, atomTree(5000), atomTree(7))), treeText(treeOf(impl.TmSeal, atomTree(3039), treeOf(impl.TmHash, atomTree(5))))} {
		for at, to := range map[int]int{0: 1, 1: 2, 2: 99, 3: 99, 99: 99, math.MaxInt: 99} {
			for _, num := range []int{0, 1, 9, 10, 99, math.MaxInt} {
				got := steps(t, w, 0, forgeOf(at, num, text))
				l := got.Net[len(got.Net)-1]
				if l.From != num%10 || l.To != to || textOfTerm(t, got, l.Term) != text || got.Known[len(got.Known)-1] != l.Term {
					t.Fatalf("forged is %+v", l)
				}
			}
		}
	}
	moved := steps(t, w, 0, eventOf(impl.EvRoam, 1, 2))
	if got := steps(t, moved, 0, forgeOf(1, 4, retry)); got.Net[len(got.Net)-1].To != 8 {
		t.Fatalf("forged is %+v", got.Net)
	}
	hello := treeOf(impl.TmPair, atomTree(5003), atomTree(1000))
	for _, text := range []string{treeText(hello), treeText(atomTree(1000)), treeText(atomTree(2001)), treeText(treeOf(impl.TmPub, atomTree(2004))), treeText(treeOf(impl.TmHash, atomTree(10000))), treeText(treeOf(impl.TmSign, atomTree(2001), atomTree(7))),
		"", "x", retry + "\x00", retry[:len(retry)-1], "\x01", "\x0a\x00", "\x81\x00\x07", strings.Repeat("x", 4000), strings.Repeat("\x02", 4000)} {
		if got := steps(t, w, 1, forgeOf(0, 0, text), forgeOf(7, 0, text)); len(got.Arena.Nodes) != len(w.Arena.Nodes) || len(got.Net) != len(w.Net) || len(got.Known) != len(w.Known) {
			t.Fatalf("of what can't be made is left %s", tellWorld(got))
		}
	}
	checkNoStep(t, w, forgeOf(0, 0, strings.Repeat("x", 4001)), forgeOf(0, 0, retry+strings.Repeat("x", 4001)))
	// What the gate's letter can be made of is heard as the gate's own.
	forged := steps(t, w, 0, forgeOf(0, 9, retry))
	heard := steps(t, forged, 0, eventOf(impl.EvCarry, 0, 1))
	if !heard.Clients[0].Cookie {
		t.Fatalf("it is %s", tellWorld(heard))
	}
	steps(t, heard, 1, eventOf(impl.EvCarry, 0, 0))
	// In an arena that is not right nothing can be made, nor where there is no room.
	wrong := worldCopy(w)
	wrong.Arena.Nodes = append(wrong.Arena.Nodes, wrong.Arena.Nodes[0])
	steps(t, wrong, 1, forgeOf(0, 0, retry))
	for room := range 4 {
		full := worldCopy(w)
		full.Arena.Nodes = fill(full.Arena.Nodes, room)
		checkStep(t, full, forgeOf(0, 0, own))
	}
}

// Long secrets that come out: of whom, and what is safe ahead of it and behind it.
func TestP18Takes(t *testing.T) {
	w := impl.WorldNew(2, nil)
	for at, name := range map[int]int{0: 1, 1: 2, 4: 1, 5: 2} {
		got := steps(t, w, 0, eventOf(impl.EvTake, at, 2))
		if !slices.Equal(got.Taken, []int{3, name}) || len(got.Known) != 12 || got.Arena.Nodes[got.Known[10]] != atomNode(2000+name) || got.Arena.Nodes[got.Known[11]] != atomNode(3009+10*name) {
			t.Fatalf("taken is %s", tellWorld(got))
		}
		got = steps(t, w, 0, eventOf(impl.EvTake, at, 3))
		if !slices.Equal(got.Taken, []int{3, 9}) || len(got.Known) != 13 || got.Arena.Nodes[got.Known[10]] != atomNode(2009) || got.Arena.Nodes[got.Known[11]] != atomNode(3019) || got.Arena.Nodes[got.Known[12]] != atomNode(3029) {
			t.Fatalf("taken is %s", tellWorld(got))
		}
	}
	safes := func(w impl.World) []string {
		var told []string
		for _, n := range slices.Concat(w.Begun, w.Done, w.Sent, w.Got) {
			told = append(told, fmt.Sprint(n.Name, n.Peer, n.Safe))
		}
		slices.Sort(told)
		return slices.Compact(told)
	}
	checkSafe := func(w impl.World, want ...string) {
		t.Helper()
		slices.Sort(want)
		if got := safes(w); !slices.Equal(got, want) {
			t.Fatalf("safe are %v; want %v, in %s", got, want, tellWorld(w))
		}
	}
	for _, mode := range bothModes {
		events := []impl.Event{eventOf(impl.EvStart, 0, 0), eventOf(impl.EvStart, 1, 0)}
		first := steps(t, impl.WorldNew(mode, twoRoutes), 0, eventOf(impl.EvTake, 0, 0))
		first = carryAll(t, steps(t, first, 0, events...))
		checkSafe(first, "1 9 false", "9 1 false", "2 9 true", "9 2 true")
		first = carryAll(t, steps(t, first, 0, eventOf(impl.EvSend, 0, 20), eventOf(impl.EvSend, 1, 10)))
		checkSafe(first, "1 9 false", "9 1 false", "2 9 true", "9 2 true")
		gate := steps(t, impl.WorldNew(mode, twoRoutes), 0, eventOf(impl.EvTake, 0, 1))
		checkSafe(carryAll(t, steps(t, gate, 0, events...)), "1 9 false", "9 1 false", "2 9 false", "9 2 false")
		late := steps(t, openWorld(t, mode), 0, eventOf(impl.EvTake, 0, 0), eventOf(impl.EvTake, 1, 1))
		late = carryAll(t, steps(t, late, 0, eventOf(impl.EvSend, 0, 20), eventOf(impl.EvSend, 1, 10)))
		checkSafe(late, "1 9 true", "9 1 true", "2 9 true", "9 2 true") // what was agreed on stays safe
	}
	// The gate came to its end ahead of it, the client behind it: what each says and hears is as safe as its own end.
	between := steps(t, impl.WorldNew(impl.MdCert, twoRoutes), 0, eventOf(impl.EvStart, 0, 0))
	for len(between.Done) == 0 {
		between = steps(t, between, 0, eventOf(impl.EvCarry, 0, 0))
	}
	between = carryAll(t, steps(t, between, 0, eventOf(impl.EvTake, 0, 1)))
	between = carryAll(t, steps(t, between, 0, eventOf(impl.EvSend, 0, 10)))
	if len(between.Sent) != 2 || len(between.Got) != 2 {
		t.Fatalf("it is %s", tellWorld(between))
	}
	for _, n := range slices.Concat(between.Done, between.Sent, between.Got) {
		if n.Safe != (n.Name == 9) {
			t.Fatalf("noted is %+v in %s", n, tellWorld(between))
		}
	}
	full := worldCopy(w)
	full.Arena.Nodes = fill(full.Arena.Nodes, 0)
	if got := steps(t, full, 0, eventOf(impl.EvTake, 0, 0)); len(got.Known) != 11 || len(got.Taken) != 2 { // the long secret is there, the other one is not
		t.Fatalf("in a full arena it is %s", tellWorld(got))
	}
}

func TestP18WrongWorldsAndEvents(t *testing.T) {
	w := steps(t, impl.WorldNew(1, nil), 0, eventOf(impl.EvStart, 0, 0))
	var events []impl.Event
	for kind := 1; kind <= 10; kind++ {
		events = append(events, eventOf(kind, 0, 0))
		checkNoStep(t, w, eventOf(kind, -1, 0), eventOf(kind, 0, -1), eventOf(kind, math.MinInt, math.MinInt))
		if kind != impl.EvForge {
			checkNoStep(t, w, impl.Event{Kind: kind, Text: "x"})
		}
	}
	checkNoStep(t, w, eventOf(0, 0, 0), eventOf(11, 0, 0), eventOf(-1, 0, 0), eventOf(math.MaxInt, 0, 0), eventOf(math.MinInt, 0, 0), impl.Event{})
	for _, change := range []func(w *impl.World){
		func(w *impl.World) { w.Clients = nil },
		func(w *impl.World) { w.Clients = w.Clients[:1] },
		func(w *impl.World) { w.Clients = append(w.Clients, w.Clients...) },
		func(w *impl.World) { w.Addrs = nil },
		func(w *impl.World) { w.Addrs = w.Addrs[:1] },
		func(w *impl.World) { w.Addrs = append(w.Addrs, 3) },
		func(w *impl.World) { w.Now = -1 },
		func(w *impl.World) { w.Now = 90001 },
		func(w *impl.World) { w.Now = math.MinInt },
		func(w *impl.World) { w.Now = math.MaxInt },
		func(w *impl.World) { w.Draw = 999 },
		func(w *impl.World) { w.Draw = 800001 },
		func(w *impl.World) { w.Draw = 0 },
		func(w *impl.World) { w.Draw = math.MinInt },
		func(w *impl.World) { w.Draw = math.MaxInt },
		func(w *impl.World) { *w = impl.World{} },
	} {
		v := worldCopy(w)
		change(&v)
		checkNoStep(t, v, events...)
	}
	for _, change := range []func(w *impl.World){
		func(w *impl.World) { w.Now = 90000 },
		func(w *impl.World) { w.Draw = 1000 },
		func(w *impl.World) { w.Draw = 800000 },
		func(w *impl.World) { w.Gate = impl.Gate{} },
		func(w *impl.World) { w.Arena = impl.Arena{} },
		func(w *impl.World) {
			w.Net = []impl.Letter{{From: -1, To: 99, Term: -1}, {From: 5, To: 1, Term: 99999}}
		},
		func(w *impl.World) {
			w.Known, w.Taken, w.Codes = []int{-1, 99999}, []int{1, 1, 9}, []int{-7, 1 << 40}
		},
		func(w *impl.World) { w.Done = []impl.Note{{Name: -1, App: 99999, Safe: true}} },
	} {
		v := worldCopy(w)
		change(&v)
		for _, e := range append(events, eventOf(impl.EvCarry, 0, 1), eventOf(impl.EvTurn, 0, 1)) {
			if got := checkStep(t, v, e); len(got.Codes) != len(v.Codes)+1 || got.Draw != v.Draw+10 {
				t.Fatalf("by %+v it is %s", e, tellWorld(got))
			}
		}
	}
	late := worldCopy(w)
	late.Now = 89999
	late = steps(t, late, 0, eventOf(impl.EvTick, 0, 0), eventOf(impl.EvTick, 0, 3))
	checkNoStep(t, late, events...)
}

func TestP18Runs(t *testing.T) {
	ticks := func(n int) []impl.Event { return slices.Repeat([]impl.Event{eventOf(impl.EvTick, 0, 0)}, n) }
	for _, n := range []int{0, 1, 2, 49, 50} {
		w, ok := impl.RunWorld(2, twoRoutes, ticks(n))
		if !ok || w.Now != n || len(w.Codes) != n || w.Draw != 10000+10*n {
			t.Fatalf("%d ticks are %s, %v", n, tellWorld(w), ok)
		}
	}
	if w, ok := impl.RunWorld(1, nil, nil); !ok || !sameWorld(w, impl.WorldNew(1, nil)) {
		t.Fatalf("of no events it is %s, %v", tellWorld(w), ok)
	}
	refused := func(mode int, routes []impl.Route, events []impl.Event) {
		t.Helper()
		if w, ok := impl.RunWorld(mode, routes, events); ok || !sameWorld(w, impl.World{}) {
			t.Fatalf("it is %s, %v", tellWorld(w), ok)
		}
	}
	refused(1, nil, ticks(51))
	refused(1, nil, ticks(2000))
	for at := range 3 {
		for _, e := range []impl.Event{{}, eventOf(11, 0, 0), eventOf(1, -1, 0), eventOf(1, 0, -1), {Kind: 1, Text: "x"}, forgeOf(0, 0, strings.Repeat("x", 4001))} {
			refused(1, nil, slices.Concat(ticks(at), []impl.Event{e}, ticks(2-at)))
		}
	}
	for _, mode := range []int{0, 3, -1, 1 + 1<<32, math.MinInt, math.MaxInt} {
		refused(mode, nil, ticks(1))
	}
	for _, routes := range [][]impl.Route{{routeOf(16, 3, 0)}, {routeOf(0, 0, 10)}, {routeOf(0, 0, 1), routeOf(0, 0, 2)}, slices.Repeat(twoRoutes, 5), {routeOf(-1, 8, 1)}} {
		refused(1, routes, ticks(1))
		refused(1, routes, nil)
	}
}

// drawForged is a text that who hears all might say: one of what was heard, one of the own, letters with parts of others; some of it can't be made.
func drawForged(draw *rand.Rand, w impl.World) string {
	a := w.Arena
	some := func() int { return w.Known[draw.Intn(len(w.Known))] }
	k := some()
	switch draw.Intn(6) {
	case 0, 1:
		kind, parts := impl.LetterIn(a, k)
		for i := range parts {
			if _, others := impl.LetterIn(a, some()); draw.Intn(2) == 0 && len(others) > i {
				parts[i] = others[i]
			}
		}
		if kind > 0 {
			a, k = impl.LetterOf(a, kind, parts)
		}
	case 2:
		var nonce, secret, pub, hello, zero int
		a, nonce = impl.Atom(a, 5000)
		a, secret = impl.Atom(a, 5001+draw.Intn(2))
		a, pub = impl.Make(a, impl.TmPub, secret, 0)
		a, hello = impl.HelloTerm(a, impl.Hello{Mode: 1 + draw.Intn(2), Name: 1 + draw.Intn(3), Nonce: nonce, Pub: pub})
		a, zero = impl.Atom(a, 0)
		cookies := []int{zero}
		for _, known := range w.Known {
			if kind, parts := impl.LetterIn(w.Arena, known); kind == impl.LtRetry {
				cookies = append(cookies, parts[0])
			}
		}
		a, k = impl.LetterOf(a, impl.LtHello, []int{hello, cookies[draw.Intn(len(cookies))]})
	case 3:
		k = draw.Intn(len(a.Nodes))
	}
	text, _ := impl.TermText(a, k)
	if len(text) > 4000 || draw.Intn(20) == 0 {
		return "\x02\x01\x07"
	}
	return text
}

func drawEvent(draw *rand.Rand, w impl.World) impl.Event {
	e := eventOf(1+draw.Intn(10), draw.Intn(3), draw.Intn(60))
	switch draw.Intn(3) {
	case 0:
		e.Kind = impl.EvCarry
	case 1:
		e = eventOf(impl.EvCarry, 0, draw.Intn(max(1, len(w.Net))))
	}
	if e.Kind == impl.EvTake && draw.Intn(3) > 0 {
		e.Kind = impl.EvSend
	}
	if e.Kind == impl.EvForge {
		e.Text = drawForged(draw, w)
	}
	return e
}

// In drawn lives each step is as the plain way tells, and run at once it is the same.
func TestP18DrawnLives(t *testing.T) {
	draw := rand.New(rand.NewSource(40))
	codes := map[[2]int]int{}
	for life := range 60 {
		mode := 1 + life%2
		w := impl.WorldNew(mode, twoRoutes)
		if life%3 == 0 {
			w = openWorld(t, mode)
		}
		start := len(w.Codes)
		var events []impl.Event
		for len(events) < 50 {
			e := drawEvent(draw, w)
			w = checkStep(t, w, e)
			events = append(events, e)
			codes[[2]int{e.Kind, lastCode(w)}]++
		}
		if start > 0 {
			continue
		}
		run, ok := impl.RunWorld(mode, twoRoutes, events)
		if !ok || !sameWorld(run, w) {
			t.Fatalf("run it is %s, %v; want %s", tellWorld(run), ok, tellWorld(w))
		}
	}
	for _, want := range [][2]int{{1, 0}, {1, 1}, {2, 0}, {2, 1}, {2, 9}, {3, 0}, {3, 9}, {4, 0}, {4, 9}, {5, 0}, {6, 0}, {6, 1}, {7, 0}, {7, 1}, {8, 0}, {9, 0}, {9, 1}, {10, 0}} {
		if codes[want] == 0 {
			t.Errorf("no event of the kind %d has the code %d: %v", want[0], want[1], codes)
		}
	}
}

// Worlds with fields that are drawn anew, many of them not right: each step is as the plain way tells.
func TestP18DrawnWorlds(t *testing.T) {
	draw := rand.New(rand.NewSource(41))
	var worlds []impl.World
	for _, mode := range bothModes {
		w := openWorld(t, mode)
		half := impl.WorldNew(mode, twoRoutes)
		for range 12 {
			e := drawEvent(draw, half)
			half = checkStep(t, half, e)
		}
		worlds = append(worlds, w, steps(t, w, 0, eventOf(impl.EvSend, 0, 50), eventOf(impl.EvSend, 1, 10)), half)
	}
	for range 500 {
		w := worldCopy(worlds[draw.Intn(len(worlds))])
		nodes := w.Arena.Nodes
		switch draw.Intn(6) {
		case 0:
			drawAnew(draw, nodes, draw.Intn(len(nodes)), drawPartNode)
		case 1:
			w.Gate = drawGate(draw, []impl.Gate{w.Gate}, len(nodes))
		case 2:
			w.Addrs[draw.Intn(2)] = []int{1, 2, 99, -1}[draw.Intn(4)]
		case 3:
			c := &w.Clients[draw.Intn(2)]
			*c = []impl.Client{{}, w.Clients[0], w.Clients[1]}[draw.Intn(3)]
			c.State, c.Last, c.Name, c.Lease = draw.Intn(6), draw.Intn(len(nodes)+2)-1, draw.Intn(12)-1, draw.Intn(300)
		case 4:
			w.Net = append(w.Net, impl.Letter{From: draw.Intn(4), To: []int{1, 2, 99}[draw.Intn(3)], Term: draw.Intn(len(nodes)+2) - 1})
		case 5:
			i, j := draw.Intn(len(nodes)), draw.Intn(len(nodes))
			nodes[i], nodes[j] = nodes[j], nodes[i]
		}
		for range 6 {
			w = checkStep(t, w, drawEvent(draw, w))
		}
	}
}

// roomyWorld has spare room behind its lists; whether all of it is as it was tells the function.
func roomyWorld(w impl.World) (impl.World, func() bool) {
	was := worldCopy(w)
	numbers := func(list *[]int) func() bool {
		room := append(slices.Clone(*list), 55, 55, 55, 55)
		kept := slices.Clone(room)
		*list = room[:len(*list)]
		return func() bool { return slices.Equal(room, kept) }
	}
	notes := func(list *[]impl.Note) func() bool {
		room := append(slices.Clone(*list), make([]impl.Note, 4)...)
		kept := slices.Clone(room)
		*list = room[:len(*list)]
		return func() bool { return slices.Equal(room, kept) }
	}
	checks := []func() bool{numbers(&w.Addrs), numbers(&w.Known), numbers(&w.Taken), numbers(&w.Codes), notes(&w.Begun), notes(&w.Done), notes(&w.Sent), notes(&w.Got)}
	gate, gateIsSame := roomyGate(w.Gate)
	w.Gate = gate
	nodes := append(slices.Clone(w.Arena.Nodes), make([]impl.Node, 60)...)
	net := append(slices.Clone(w.Net), make([]impl.Letter, 4)...)
	clients := append(slices.Clone(w.Clients), make([]impl.Client, 4)...)
	w.Arena.Nodes, w.Net, w.Clients = nodes[:len(was.Arena.Nodes)], net[:len(was.Net)], clients[:len(was.Clients)]
	return w, func() bool {
		for _, check := range checks {
			if !check() {
				return false
			}
		}
		return gateIsSame() && slices.Equal(nodes, append(slices.Clone(was.Arena.Nodes), make([]impl.Node, 60)...)) &&
			slices.Equal(net, append(slices.Clone(was.Net), make([]impl.Letter, 4)...)) && slices.Equal(clients, append(slices.Clone(was.Clients), make([]impl.Client, 4)...))
	}
}

// scribbleWorld writes over all lists of a world, and the room behind them.
func scribbleWorld(w impl.World) {
	scribbleNodes(w.Arena.Nodes)
	scribble(w.Gate)
	for _, list := range [][]int{w.Addrs, w.Known, w.Taken, w.Codes} {
		list = list[:cap(list)]
		for i := range list {
			list[i] = -99
		}
	}
	for _, list := range [][]impl.Note{w.Begun, w.Done, w.Sent, w.Got} {
		list = list[:cap(list)]
		for i := range list {
			list[i] = impl.Note{Name: -99}
		}
	}
	net, clients := w.Net[:cap(w.Net)], w.Clients[:cap(w.Clients)]
	for i := range net {
		net[i] = impl.Letter{From: -99}
	}
	for i := range clients {
		clients[i] = impl.Client{Name: -99}
	}
}

func TestP18AnswersAreNewMemory(t *testing.T) {
	for _, mode := range bothModes {
		busy := steps(t, openWorld(t, mode), 0, eventOf(impl.EvSend, 0, 50), eventOf(impl.EvSend, 1, 10), eventOf(impl.EvSend, 0, 20))
		for _, w := range []impl.World{impl.WorldNew(mode, twoRoutes), busy, steps(t, busy, 0, eventOf(impl.EvCarry, 0, 1))} {
			roomy, isAsItWas := roomyWorld(w)
			for kind := 0; kind <= 11; kind++ {
				for _, num := range []int{0, 1, 2, 20, 21} {
					e := eventOf(kind, num, num)
					if kind == impl.EvForge {
						e.Text = textOfTerm(t, w, w.Known[0])
					}
					got := impl.StepWorld(roomy, e)
					want := plainStepWorld(w, e)
					checkWorld(t, "a step", got, want)
					scribbleWorld(got)
					if !isAsItWas() {
						t.Fatalf("by %+v an argument was changed", e)
					}
				}
			}
		}
		routes := append(slices.Clone(twoRoutes), routeOf(55, 55, 55))
		events := []impl.Event{eventOf(impl.EvStart, 0, 0), eventOf(impl.EvCarry, 0, 0)}
		run, _ := impl.RunWorld(mode, routes[:2], events)
		scribbleWorld(run)
		scribbleWorld(impl.WorldNew(mode, routes[:2]))
		if !slices.Equal(routes, append(slices.Clone(twoRoutes), routeOf(55, 55, 55))) || !slices.Equal(events, []impl.Event{eventOf(impl.EvStart, 0, 0), eventOf(impl.EvCarry, 0, 0)}) {
			t.Fatalf("an argument was changed: %v, %v", routes, events)
		}
	}
}
