package tests

import (
	"fmt"
	"math"
	"math/rand"
	"slices"
	"testing"

	"loop.example/g00466/impl"
)

// truths are what is asked of a world, in the order of the chapter; the last one is all of them, in an arena that is right.
type truths struct{ agreed, cameFrom, secret, placesRight, sound bool }

var allTrue = truths{true, true, true, true, true}

func truthsOf(w impl.World) truths {
	return truths{impl.Agreed(w), impl.CameFrom(w), impl.Secret(w), impl.PlacesRight(w), impl.SoundWorld(w)}
}

func plainAgreed(w impl.World) bool {
	for _, n := range w.Done {
		others := w.Begun
		if n.Name != 9 {
			others = w.Done
		}
		found := !n.Safe
		for _, other := range others {
			isOther := n.Name == 9 && other.Name == n.Peer || n.Name != 9 && other.Name == 9 && other.Peer == n.Name
			found = found || isOther && other.App == n.App && other.Body == n.Body
		}
		if !found {
			return false
		}
	}
	return true
}

func plainCameFrom(w impl.World) bool {
	for i, n := range w.Got {
		wasSent := false
		for _, sent := range w.Sent {
			wasSent = wasSent || sent.Name == n.Peer && sent.App == n.App && sent.Epoch == n.Epoch && sent.Seq == n.Seq && sent.Body == n.Body
		}
		if n.Safe && !wasSent {
			return false
		}
		for _, other := range w.Got[:i] {
			if other.Name == n.Name && other.App == n.App && other.Epoch == n.Epoch && other.Seq == n.Seq {
				return false
			}
		}
	}
	return true
}

func plainSecret(w impl.World) bool {
	had := plainReach(w.Arena.Nodes, w.Known)
	for _, n := range w.Done {
		if n.Safe && 0 <= n.App && n.App < len(had) && had[n.App] {
			return false
		}
	}
	return true
}

func plainPlacesRight(w impl.World) bool {
	for _, o := range w.Gate.Outs {
		if !isWithin(o.Packet.Src, 10, 12) {
			return false
		}
	}
	return plainGateOk(w.Arena.Nodes, w.Gate)
}

func plainTruths(w impl.World) truths {
	told := truths{plainAgreed(w), plainCameFrom(w), plainSecret(w), plainPlacesRight(w), false}
	told.sound = plainArenaOk(w.Arena.Nodes) && told.agreed && told.cameFrom && told.secret && told.placesRight
	return told
}

func checkTruths(t *testing.T, w impl.World, want truths) {
	t.Helper()
	if got := truthsOf(w); got != want {
		t.Fatalf("of %s it tells %+v; want %+v", tellWorld(w), got, want)
	}
}

// checkTruthsPlain holds all that is asked of a world against the plain ways, and answers it.
func checkTruthsPlain(t *testing.T, w impl.World) truths {
	t.Helper()
	want := plainTruths(w)
	checkTruths(t, w, want)
	return want
}

func changed(w impl.World, change func(w *impl.World)) impl.World {
	w = worldCopy(w)
	change(&w)
	return w
}

// talkedWorld is a life in which both clients are open, and packets came through, at the gate and at a client.
func talkedWorld(t *testing.T, mode int) impl.World {
	t.Helper()
	w := steps(t, openWorld(t, mode), 0, eventOf(impl.EvSend, 0, 20), eventOf(impl.EvSend, 1, 10), eventOf(impl.EvSend, 1, 34), eventOf(impl.EvSend, 0, 8))
	w = carryAll(t, w)
	if len(w.Got) != 5 || len(w.Gate.Outs) != 2 || len(w.Done) != 4 {
		t.Fatalf("it is %s", tellWorld(w))
	}
	return w
}

func TestP19OfLives(t *testing.T) {
	for _, mode := range bothModes {
		checkTruths(t, impl.WorldNew(mode, twoRoutes), allTrue)
		w := impl.WorldNew(mode, twoRoutes)
		for _, e := range []impl.Event{eventOf(impl.EvStart, 0, 0), eventOf(impl.EvStart, 1, 0)} {
			w = steps(t, w, 0, e)
			checkTruths(t, w, allTrue)
		}
		for len(w.Net) > 0 {
			w = steps(t, w, 0, eventOf(impl.EvTwice, 0, 0), eventOf(impl.EvCarry, 0, 0))
			checkTruths(t, w, allTrue)
			if w = checkStep(t, w, eventOf(impl.EvLose, 0, len(w.Net)-1)); len(w.Known) > 60 {
				break
			}
			checkTruths(t, w, allTrue)
		}
		talked := talkedWorld(t, mode)
		checkTruths(t, talked, allTrue)
		// Though long secrets come out later, all of it holds.
		late := steps(t, talked, 0, eventOf(impl.EvTake, 0, 0), eventOf(impl.EvTake, 1, 0), eventOf(impl.EvTake, 0, 1))
		checkTruths(t, late, allTrue)
		checkTruths(t, carryAll(t, steps(t, late, 0, eventOf(impl.EvSend, 0, 20), eventOf(impl.EvSend, 1, 10))), allTrue)
	}
}

// noteAt changes one note of a list.
func noteAt(list []impl.Note, is func(n impl.Note) bool, change func(n *impl.Note)) {
	change(&list[slices.IndexFunc(list, is)])
}

func isOf(name int) func(n impl.Note) bool {
	return func(n impl.Note) bool { return n.Name == name }
}

// A Done of a client that is Safe has one of the gate; one of the gate that is Safe has one Begun. Of those that are not Safe nothing is asked.
func TestP19Agreed(t *testing.T) {
	w := talkedWorld(t, impl.MdCert)
	want := truths{false, true, true, true, false}
	gateOf := func(name int) func(n impl.Note) bool {
		return func(n impl.Note) bool { return n.Name == 9 && n.Peer == name }
	}
	changes := []func(n *impl.Note){
		func(n *impl.Note) { n.App += 100000 },
		func(n *impl.Note) { n.Body-- },
		func(n *impl.Note) { n.App = -1 },
		func(n *impl.Note) { n.Body = 99999 },
		func(n *impl.Note) { n.Peer = 3 },
		func(n *impl.Note) { n.Peer = 9 },
	}
	for name := 1; name <= 2; name++ {
		for i, change := range changes {
			// The gate's is another one: neither the client has it, nor (when it is Safe) has it one Begun.
			for _, safe := range []bool{true, false} {
				checkTruths(t, changed(w, func(w *impl.World) {
					noteAt(w.Done, gateOf(name), func(n *impl.Note) { change(n); n.Safe = safe })
				}), want)
				// Where the client is not Safe, only the gate's one counts.
				checkTruths(t, changed(w, func(w *impl.World) {
					noteAt(w.Done, isOf(name), func(n *impl.Note) { n.Safe = false })
					noteAt(w.Done, gateOf(name), func(n *impl.Note) { change(n); n.Safe = safe })
				}), truths{!safe, true, true, true, !safe})
			}
			// The client's own is another one; whom it takes for its peer is not asked.
			isAsked := i < 4
			checkTruths(t, changed(w, func(w *impl.World) { noteAt(w.Done, isOf(name), change) }), truths{!isAsked, true, true, true, !isAsked})
			checkTruths(t, changed(w, func(w *impl.World) {
				noteAt(w.Done, isOf(name), func(n *impl.Note) { change(n); n.Safe = false })
			}), allTrue)
			// What was begun is another one.
			checkTruths(t, changed(w, func(w *impl.World) { noteAt(w.Begun, isOf(name), change) }), truths{!isAsked, true, true, true, !isAsked})
			checkTruths(t, changed(w, func(w *impl.World) {
				noteAt(w.Begun, isOf(name), change)
				noteAt(w.Done, gateOf(name), func(n *impl.Note) { n.Safe = false })
			}), allTrue)
		}
		for _, other := range []int{3 - name, 3, 9, 0, -1} {
			checkTruths(t, changed(w, func(w *impl.World) { noteAt(w.Begun, isOf(name), func(n *impl.Note) { n.Name = other }) }), want)
			if other != 9 {
				checkTruths(t, changed(w, func(w *impl.World) { noteAt(w.Done, isOf(name), func(n *impl.Note) { n.Name = other }) }), want)
			}
		}
		// Epochs and Seqs are not asked, nor who else came to an end.
		checkTruths(t, changed(w, func(w *impl.World) {
			for i := range w.Done {
				w.Done[i].Epoch, w.Done[i].Seq = i, -i
			}
			w.Done = append(w.Done, impl.Note{Name: 5, Peer: 9, App: 7}, impl.Note{Name: 9, Peer: 5, App: 8})
			slices.Reverse(w.Done)
			w.Begun = append(w.Begun, impl.Note{Name: 5, Safe: true})
		}), allTrue)
	}
	checkTruths(t, changed(w, func(w *impl.World) { w.Begun = nil }), want)
	checkTruths(t, changed(w, func(w *impl.World) { w.Done = slices.DeleteFunc(w.Done, isOf(9)) }), want)
	checkTruths(t, changed(w, func(w *impl.World) { w.Done = slices.DeleteFunc(w.Done, isOf(1)) }), allTrue)
	checkTruths(t, changed(w, func(w *impl.World) { w.Done = append(w.Done, impl.Note{Name: 1, Peer: 9, App: 3, Body: 4, Safe: true}) }), want)
	checkTruths(t, changed(w, func(w *impl.World) { w.Done = append(w.Done, impl.Note{Name: 9, Peer: 1, App: 3, Body: 4, Safe: true}) }), want)
	// Worlds of notes alone.
	client, gate := impl.Note{Name: 1, Peer: 9, App: 5, Body: 6, Safe: true}, impl.Note{Name: 9, Peer: 1, App: 5, Epoch: 1, Body: 6, Safe: true}
	for _, c := range []struct {
		begun, done []impl.Note
		want        bool
	}{
		{nil, nil, true}, {nil, []impl.Note{client}, false}, {nil, []impl.Note{client, gate}, false}, {[]impl.Note{client}, []impl.Note{client, gate}, true}, {[]impl.Note{client}, []impl.Note{gate}, true},
		{[]impl.Note{gate}, []impl.Note{gate, client}, false}, {[]impl.Note{client, client}, []impl.Note{gate, client, client, gate}, true},
	} {
		if got := impl.Agreed(impl.World{Begun: c.begun, Done: c.done}); got != c.want {
			t.Errorf("Agreed of %+v, %+v is %v", c.begun, c.done, got)
		}
	}
}

// A Got that is Safe was Sent by its Peer; and nothing came twice.
func TestP19CameFrom(t *testing.T) {
	for _, mode := range bothModes {
		w := talkedWorld(t, mode)
		want := truths{true, false, true, true, false}
		for i := range w.Got {
			for _, change := range []func(n *impl.Note){
				func(n *impl.Note) { n.Body++ },
				func(n *impl.Note) { n.Seq += 50 },
				func(n *impl.Note) { n.Epoch += 2 },
				func(n *impl.Note) { n.App = -1 },
				func(n *impl.Note) { n.Peer = 3 },
				func(n *impl.Note) { n.Peer = n.Name },
				func(n *impl.Note) { n.Body = math.MaxInt },
			} {
				checkTruths(t, changed(w, func(w *impl.World) { change(&w.Got[i]) }), want)
				checkTruths(t, changed(w, func(w *impl.World) { change(&w.Got[i]); w.Got[i].Safe = false }), allTrue)
			}
			// Twice, Safe or not.
			checkTruths(t, changed(w, func(w *impl.World) { w.Got = append(w.Got, w.Got[i]) }), want)
			checkTruths(t, changed(w, func(w *impl.World) {
				again := w.Got[i]
				again.Safe, again.Body, again.Peer = false, 7, 77
				w.Got = append(w.Got, again)
			}), want)
			checkTruths(t, changed(w, func(w *impl.World) {
				for _, more := range []impl.Note{{Name: 5}, {Epoch: 1}, {Seq: 100}, {App: 1}} {
					again := w.Got[i]
					again.Name, again.Epoch, again.Seq, again.App, again.Safe = again.Name+more.Name, again.Epoch+more.Epoch, again.Seq+more.Seq, again.App+more.App, false
					w.Got = append(w.Got, again)
				}
			}), allTrue)
			checkTruths(t, changed(w, func(w *impl.World) { w.Got = slices.Delete(w.Got, i, i+1) }), allTrue)
		}
		checkTruths(t, changed(w, func(w *impl.World) { w.Sent = nil }), want)
		for i := range w.Sent {
			checkTruths(t, changed(w, func(w *impl.World) { w.Sent = slices.Delete(w.Sent, i, i+1) }), want) // each came through
		}
		checkTruths(t, changed(w, func(w *impl.World) { w.Got = nil }), allTrue)
		// Whether what was Sent is Safe, and to whom, is not asked; twice it may be there.
		checkTruths(t, changed(w, func(w *impl.World) {
			for i := range w.Sent {
				w.Sent[i].Safe, w.Sent[i].Peer = false, 44
			}
			w.Sent = append(w.Sent, w.Sent...)
			slices.Reverse(w.Sent)
		}), allTrue)
	}
	if !impl.CameFrom(impl.World{}) || impl.CameFrom(impl.World{Got: []impl.Note{{Safe: true}}}) || !impl.CameFrom(impl.World{Got: []impl.Note{{}}}) || impl.CameFrom(impl.World{Got: []impl.Note{{}, {}}}) {
		t.Errorf("worlds of notes alone are not as they are")
	}
}

// An App of a Done that is Safe which can be had, and one that is not Safe.
func TestP19Secret(t *testing.T) {
	for _, mode := range bothModes {
		w := talkedWorld(t, mode)
		out := truths{true, true, false, true, false}
		for i, n := range w.Done {
			known := changed(w, func(w *impl.World) { w.Known = append(w.Known, n.App) })
			checkTruths(t, known, out)
			known = changed(w, func(w *impl.World) { w.Known = append(w.Known, w.Clients[(i+1)%2].Hand) })
			checkTruths(t, known, out)
			// Neither end is Safe.
			checkTruths(t, changed(known, func(w *impl.World) {
				for j := range w.Done {
					w.Done[j].Safe = false
				}
			}), allTrue)
			// Another App that can be had: an Atom that all have.
			checkTruths(t, changed(w, func(w *impl.World) { w.Done[i].App = slices.Index(w.Arena.Nodes, atomNode(1)) }), truths{false, true, false, true, false})
			for _, none := range append(outside, len(w.Arena.Nodes)) { // a place that is none can't be had
				checkTruths(t, changed(w, func(w *impl.World) { w.Done[i].App = none }), truths{false, true, true, true, false})
			}
		}
		// With the secrets of a key that were drawn it can be had.
		draw := slices.Index(w.Arena.Nodes, atomNode(10000))
		if got := truthsOf(changed(w, func(w *impl.World) { w.Known = append(w.Known, draw) })); got.secret != (mode == impl.MdPsk) {
			t.Fatalf("with the draw it is %+v", got)
		}
		both := changed(steps(t, w, 0, eventOf(impl.EvTake, 0, 0)), func(w *impl.World) { w.Known = append(w.Known, draw) })
		checkTruths(t, both, out)
		// In an arena that is not right nothing can be had.
		checkTruths(t, changed(both, func(w *impl.World) { w.Arena.Nodes = append(w.Arena.Nodes, w.Arena.Nodes[0]) }), truths{true, true, true, true, false})
	}
}

func TestP19PlacesRight(t *testing.T) {
	w := talkedWorld(t, impl.MdPsk)
	wrong := truths{true, true, true, false, false}
	for i := range w.Gate.Outs {
		for src, ok := range map[int]bool{10: true, 11: true, 12: true, 9: false, 13: false, 0: false, -1: false, 256: false, math.MinInt: false, math.MaxInt: false} {
			want := wrong
			if ok {
				want = allTrue
			}
			checkTruths(t, changed(w, func(w *impl.World) { w.Gate.Outs[i].Packet.Src = src }), want)
		}
	}
	y := halfYard(t, impl.MdCert)
	for _, g := range wrongGates(y) {
		v := impl.World{Arena: arenaOf(y.nodes...), Gate: g}
		checkTruths(t, v, wrong)
	}
	checkTruths(t, impl.World{Arena: arenaOf(y.nodes...), Gate: y.gate}, allTrue)
	checkTruths(t, impl.World{}, wrong)
	checkTruths(t, impl.World{Gate: impl.Gate{Next: 1}}, allTrue)
}

// An arena that is not right: nothing else of it need be wrong.
func TestP19WrongArenas(t *testing.T) {
	w := talkedWorld(t, impl.MdCert)
	unsound := truths{true, true, true, true, false}
	for _, wrong := range append(slices.Clone(wrongNodes), w.Arena.Nodes[0]) {
		checkTruths(t, changed(w, func(w *impl.World) { w.Arena.Nodes = append(w.Arena.Nodes, wrong) }), unsound)
	}
	for i, wrong := range wrongNodes {
		for at := i; at < len(w.Arena.Nodes); at += len(wrongNodes) {
			if got := checkTruthsPlain(t, changed(w, func(w *impl.World) { w.Arena.Nodes[at] = wrong })); got.sound {
				t.Fatalf("with %v at %d it is sound", wrong, at)
			}
		}
	}
	checkTruths(t, changed(w, func(w *impl.World) { w.Arena = impl.Arena{} }), truths{true, true, true, false, false})
	full := changed(w, func(w *impl.World) { w.Arena.Nodes = fill(w.Arena.Nodes, 0) })
	checkTruths(t, full, allTrue)
	checkTruths(t, changed(full, func(w *impl.World) { w.Arena.Nodes = append(w.Arena.Nodes, atomNode(999999)) }), unsound)
}

// Drawn lives, with letters carried, lost, doubled and forged, and secrets taken: all of it holds at each step.
func TestP19DrawnLives(t *testing.T) {
	draw := rand.New(rand.NewSource(42))
	safe := map[string]int{}
	for life := range 150 {
		w := impl.WorldNew(1+life%2, twoRoutes)
		for range 50 {
			w = impl.StepWorld(w, drawEvent(draw, w))
			if got := truthsOf(w); got != allTrue {
				t.Fatalf("of %s it tells %+v", tellWorld(w), got)
			}
		}
		for _, n := range w.Done {
			safe[fmt.Sprint("done ", n.Name, n.Safe)]++
		}
		for _, n := range w.Got {
			safe[fmt.Sprint("got ", n.Name, n.Safe)]++
		}
	}
	for _, some := range []string{"done 1 true", "done 1 false", "done 2 true", "done 2 false", "done 9 true", "done 9 false", "got 9 true", "got 9 false"} {
		if safe[some] == 0 {
			t.Errorf("no %s: %v", some, safe)
		}
	}
}

// Who has a client's secrets comes to an end as that client: it is not Safe, and all else holds.
func TestP19WhoHearsAllComesToAnEnd(t *testing.T) {
	for _, mode := range bothModes {
		w := impl.WorldNew(mode, twoRoutes)
		w = steps(t, w, 0, eventOf(impl.EvTake, 0, 0))
		a := w.Arena
		c := impl.ClientNew(1, 9, mode) // as the one who hears all makes it, of an own Atom
		forge := func(k int) {
			t.Helper()
			text, ok := impl.TermText(a, k)
			if !ok {
				t.Fatalf("no text of %d", k)
			}
			w = steps(t, w, 0, forgeOf(9, 5, text))
			w = steps(t, w, 0, eventOf(impl.EvCarry, 0, len(w.Net)-1))
			checkTruths(t, w, allTrue)
			a = w.Arena
		}
		a, c, k := impl.StartClient(a, c, 5000, 0)
		c.Gate = 9
		forge(k)
		// The places of an arena that read the same terms are others: all is looked for anew.
		refind := func() {
			a = w.Arena
			a, c, _ = impl.StartClient(a, impl.ClientNew(1, 9, mode), 5000, 0)
		}
		refind()
		a, c, k, _, _ = impl.HearClient(a, c, w.Net[len(w.Net)-1].Term, 0)
		forge(k)
		server := w.Net[len(w.Net)-1].Term
		refind()
		a, c, k, _, _ = impl.HearClient(a, c, server, 0)
		forge(k)
		if len(w.Done) != 1 || w.Done[0].Name != 9 || w.Done[0].Peer != 1 || w.Done[0].Safe || len(w.Gate.Pool) != 1 {
			t.Fatalf("it is %s", tellWorld(w))
		}
	}
}

// Drawn notes, in worlds that are right and in some that are not: each is told as the plain way tells it.
func TestP19DrawnNotes(t *testing.T) {
	draw := rand.New(rand.NewSource(43))
	seen := map[truths]int{}
	for range 4000 {
		note := func() impl.Note {
			return impl.Note{Name: []int{1, 2, 9}[draw.Intn(3)], Peer: []int{1, 2, 9, 9}[draw.Intn(4)], App: draw.Intn(3), Epoch: draw.Intn(2), Seq: draw.Intn(2), Body: draw.Intn(2), Safe: draw.Intn(3) == 0}
		}
		notes := func() []impl.Note {
			var list []impl.Note
			for range draw.Intn(5) {
				list = append(list, note())
			}
			return list
		}
		w := impl.World{Begun: notes(), Done: notes(), Sent: slices.Concat(notes(), notes()), Got: notes(), Gate: impl.GateNew(9, nil), Arena: arenaOf(secretAtom(1), secretAtom(2), secretAtom(3))}
		w.Known = drawKnown(draw, 3, 2)
		if draw.Intn(4) == 0 {
			w.Gate.Outs = []impl.Out{{Packet: packetOf(9+draw.Intn(5), 0, 0, 0)}}
		}
		seen[checkTruthsPlain(t, w)]++
	}
	if len(seen) < 8 {
		t.Errorf("told are %v", seen)
	}
}

func TestP19ArgumentsStayAsTheyAre(t *testing.T) {
	for _, mode := range bothModes {
		roomy, isAsItWas := roomyWorld(talkedWorld(t, mode))
		if got := truthsOf(roomy); got != allTrue || !isAsItWas() {
			t.Fatalf("it tells %+v, or changes what it is told of", got)
		}
	}
}
