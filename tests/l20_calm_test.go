package tests

import (
	"fmt"
	"math"
	"math/rand"
	"slices"
	"testing"

	"loop.example/g00466/impl"
)

// plainCalm tells the rounds by the plain life of chapter 18.
func plainCalm(w impl.World, n int) impl.World {
	l := plainLife{worldCopy(w)}
	if !isPlainSteady(w) {
		return l.World
	}
	l.Net = nil
	for round := 1; round <= n && round <= 30; round++ {
		l.Now++
		l.Gate = plainIdle(l.Gate, l.Now)
		for i := range l.Clients {
			if state := l.Clients[i].State; state != 0 && state != 4 {
				l.tick(i)
				continue
			}
			l.start(i)
			l.Draw += 10
		}
		for carried := 0; carried < 40 && len(l.Net) > 0; carried++ {
			l.carry(0)
			l.Draw += 10
		}
	}
	return l.World
}

func plainOpenIn(w impl.World) int {
	open := 0
	for _, c := range w.Clients {
		open += map[int]int{3: 1}[c.State]
	}
	return open
}

// checkCalm holds rounds against the plain way, and answers how it is behind them.
func checkCalm(t *testing.T, w impl.World, n int) impl.World {
	t.Helper()
	want := plainCalm(w, n)
	got := impl.CalmWorld(w, n)
	checkWorld(t, fmt.Sprintf("%s, behind %d rounds,", tellWorld(w), n), got, want)
	if open := plainOpenIn(want); impl.OpenIn(got) != open {
		t.Fatalf("%s has %d open; want %d", tellWorld(want), impl.OpenIn(got), open)
	}
	return want
}

// checkEnds asks for both clients open behind these rounds, with all that must be so.
func checkEnds(t *testing.T, w impl.World, n int) impl.World {
	t.Helper()
	calm := checkCalm(t, w, n)
	if impl.OpenIn(calm) != 2 || truthsOf(calm) != allTrue {
		t.Fatalf("behind %d rounds %s comes to %s, with %+v", n, tellWorld(w), tellWorld(calm), truthsOf(calm))
	}
	return calm
}

func TestP20NewWorldsComeToAnEnd(t *testing.T) {
	for _, mode := range bothModes {
		w := impl.WorldNew(mode, twoRoutes)
		for _, n := range []int{1, 2, 3, 20, 29, 30, 31, 1000, math.MaxInt} {
			calm := checkEnds(t, w, n)
			if rounds := min(n, 30); calm.Now != rounds || len(calm.Net) != 0 || len(calm.Codes) != 0 || calm.Draw != 10000+20+120 {
				t.Fatalf("behind %d rounds it is %s", n, tellWorld(calm))
			}
			if len(calm.Begun) != 2 || len(calm.Done) != 4 || len(calm.Taken) != 1 {
				t.Fatalf("behind %d rounds it is %s", n, tellWorld(calm))
			}
		}
		for _, n := range []int{0, -1, -30, math.MinInt} {
			checkWorld(t, "a new world without a round", impl.CalmWorld(w, n), w)
			checkCalm(t, w, n)
		}
		// One round and one more are two.
		checkWorld(t, "round by round it", impl.CalmWorld(impl.CalmWorld(w, 1), 1), impl.CalmWorld(w, 2))
		checkWorld(t, "more than thirty", impl.CalmWorld(w, 31), impl.CalmWorld(w, 30))
		if impl.OpenIn(w) != 0 {
			t.Fatalf("in a new world %d are open", impl.OpenIn(w))
		}
	}
}

// What was between at first is gone, also without a round; who waits for it says it again.
func TestP20WhatWasBetweenIsGone(t *testing.T) {
	for _, mode := range bothModes {
		w := steps(t, impl.WorldNew(mode, twoRoutes), 0, eventOf(impl.EvStart, 0, 0), eventOf(impl.EvStart, 1, 0), eventOf(impl.EvTwice, 0, 0), eventOf(impl.EvCarry, 0, 0))
		for _, n := range []int{0, -1, math.MinInt} {
			checkWorld(t, "without a round", impl.CalmWorld(w, n), changed(w, func(w *impl.World) { w.Net = nil }))
		}
		calm := checkEnds(t, w, 1) // both say it again at the time that is told by their waits
		if calm.Clients[0].Tries != 0 || calm.Draw != w.Draw+120 {
			t.Fatalf("it is %s", tellWorld(calm))
		}
	}
}

// Clients in each State, with a Wait or without: those that are ClIdle or ClFailed start, each other one ticks.
func TestP20EachState(t *testing.T) {
	for _, mode := range bothModes {
		open := openWorld(t, mode)
		half := steps(t, impl.WorldNew(mode, nil), 0, eventOf(impl.EvStart, 0, 0), eventOf(impl.EvStart, 1, 0))
		for _, base := range []impl.World{open, half, impl.WorldNew(mode, nil)} {
			for state := -1; state <= 6; state++ {
				for _, other := range []int{0, 1, 2, 3, 4} {
					w := changed(base, func(w *impl.World) { w.Clients[0].State, w.Clients[1].State = state, other })
					for _, n := range []int{0, 1, 2} {
						checkCalm(t, w, n)
					}
				}
			}
		}
		idle := changed(open, func(w *impl.World) { w.Clients[0].State, w.Clients[1].State = impl.ClIdle, impl.ClFailed })
		calm := checkEnds(t, changed(idle, func(w *impl.World) { w.Done, w.Begun = nil, nil }), 30)
		if calm.Clients[0].Draw != open.Draw || calm.Clients[1].Draw != open.Draw+10 && calm.Clients[1].Draw < open.Draw {
			t.Fatalf("it is %s", tellWorld(calm))
		}
		// Who waits in ClHello or ClWho, and is answered by nobody any more, fails, and starts anew.
		for _, lost := range []int{2, 3, 4, 5} {
			w := impl.WorldNew(mode, nil)
			w = steps(t, w, 0, eventOf(impl.EvStart, 0, 0))
			for range lost {
				w = steps(t, w, 0, eventOf(impl.EvCarry, 0, 0))
			}
			w.Gate = impl.GateNew(9, nil)
			w.Gate.Next = 77
			checkEnds(t, w, 30)
		}
	}
}

// Sessions that nobody uses are let go: those whose Heard is more than 20 behind Now, which is one more with each round.
func TestP20IdleSessions(t *testing.T) {
	w := openWorld(t, impl.MdPsk)
	w.Now = 50
	for _, c := range []struct{ first, second, rounds, stay int }{{30, 30, 1, 0}, {30, 30, 0, 2}, {31, 31, 1, 2}, {30, 31, 1, 1}, {30, 31, 2, 0}, {50, 50, 20, 2}, {50, 50, 21, 0}, {49, 50, 20, 1}, {0, 0, 0, 2}, {0, 0, 1, 0}, {99, 99, 30, 2}} {
		v := changed(w, func(w *impl.World) { w.Gate.Sesss[0].Heard, w.Gate.Sesss[1].Heard = c.first, c.second })
		calm := checkCalm(t, v, c.rounds)
		if len(calm.Gate.Sesss) != c.stay || len(calm.Gate.Pool) != c.stay || impl.OpenIn(calm) != 2 {
			t.Fatalf("of %+v it is %s", c, tellWorld(calm))
		}
	}
	// Three half open sessions of who hears all are in the way; they are let go, and both come to an end.
	for _, mode := range bothModes {
		w := impl.WorldNew(mode, nil)
		for i := range 3 {
			a, nonce := impl.Atom(w.Arena, 5000)
			a, secret := impl.Atom(a, 5001+i)
			a, pub := impl.Make(a, impl.TmPub, secret, 0)
			a, hello := impl.HelloTerm(a, impl.Hello{Mode: mode, Name: 3, Nonce: nonce, Pub: pub})
			a, zero := impl.Atom(a, 0)
			a, letter := impl.LetterOf(a, impl.LtHello, []int{hello, zero})
			last := func() []int {
				_, parts := impl.LetterIn(w.Arena, w.Net[len(w.Net)-1].Term)
				return parts
			}
			text, _ := impl.TermText(a, letter)
			w = steps(t, w, 0, forgeOf(9, i, text))
			forged := last()[0]
			w = steps(t, w, 0, eventOf(impl.EvCarry, 0, len(w.Net)-1))
			a, k := impl.LetterOf(w.Arena, impl.LtHello, []int{forged, last()[0]})
			text, _ = impl.TermText(a, k)
			w = steps(t, w, 0, forgeOf(9, i, text), eventOf(impl.EvCarry, 0, len(w.Net)))
		}
		if len(w.Gate.Sesss) != 3 {
			t.Fatalf("it is %s", tellWorld(w))
		}
		if calm := checkCalm(t, w, 2); impl.OpenIn(calm) != 0 || len(calm.Gate.Sesss) != 3 {
			t.Fatalf("it is %s", tellWorld(calm))
		}
		checkEnds(t, w, 30)
	}
}

// More letters in one round than are heard in it: forty are, the others stay between till the next one.
func TestP20MoreThanFortyLetters(t *testing.T) {
	w := openWorld(t, impl.MdPsk)
	// A letter that the gate answers with one to itself, and this likewise, is heard again and again.
	echo := changed(w, func(w *impl.World) {
		w.Clients[0].State, w.Clients[0].Wait, w.Clients[0].Due = impl.ClHello, 1, 0
		w.Addrs[0] = 99
		w.Arena, w.Gate.Sesss[0].Last = impl.LetterOf(w.Arena, impl.LtHello, []int{w.Gate.Sesss[0].Hello, 0})
		w.Clients[0].Last = w.Gate.Sesss[0].Last
		w.Gate.Sesss[0].State, w.Gate.Sesss[0].Addr = impl.GtHalf, 99
	})
	for n := range 4 {
		calm := checkCalm(t, echo, n)
		if calm.Draw != echo.Draw+400*n || n > 0 && len(calm.Net) == 0 {
			t.Fatalf("behind %d rounds it is %s", n, tellWorld(calm))
		}
	}
}

// Lives in which letters were lost, doubled and forged, clients failed, and sessions were left half open: when nobody hinders any more both come to an end.
func TestP20DrawnLives(t *testing.T) {
	draw := rand.New(rand.NewSource(44))
	open := map[int]int{}
	for life := range 60 {
		w := impl.WorldNew(1+life%2, twoRoutes)
		for range 20 + draw.Intn(60) {
			w = impl.StepWorld(w, drawEvent(draw, w))
		}
		open[impl.OpenIn(w)]++
		n := draw.Intn(30)
		checkCalm(t, w, n)
		calm := checkEnds(t, w, 30)
		if got := impl.CalmWorld(impl.CalmWorld(w, n), 30-n); !sameWorld(got, calm) && len(impl.CalmWorld(w, n).Net) == 0 {
			t.Fatalf("behind %d rounds, and the others, it is %s; want %s", n, tellWorld(got), tellWorld(calm))
		}
	}
	if open[0] == 0 || open[1] == 0 || open[2] == 0 {
		t.Errorf("open were %v", open)
	}
}

// Worlds that are not as a step wants them stay as they are, with what is between.
func TestP20WrongWorlds(t *testing.T) {
	w := steps(t, impl.WorldNew(1, nil), 0, eventOf(impl.EvStart, 0, 0))
	for _, change := range []func(w *impl.World){
		func(w *impl.World) { w.Clients = nil },
		func(w *impl.World) { w.Clients = w.Clients[:1] },
		func(w *impl.World) { w.Clients = append(w.Clients, w.Clients...) },
		func(w *impl.World) { w.Addrs = nil },
		func(w *impl.World) { w.Addrs = append(w.Addrs, 3) },
		func(w *impl.World) { w.Now = -1 },
		func(w *impl.World) { w.Now = 90001 },
		func(w *impl.World) { w.Now = math.MaxInt },
		func(w *impl.World) { w.Draw = 999 },
		func(w *impl.World) { w.Draw = 800001 },
		func(w *impl.World) { w.Draw = math.MinInt },
		func(w *impl.World) { *w = impl.World{} },
	} {
		v := changed(w, change)
		for _, n := range []int{-1, 0, 1, 30, 31} {
			checkWorld(t, "a world that is not as it should be", impl.CalmWorld(v, n), v)
			checkCalm(t, v, n)
		}
	}
	for _, change := range []func(w *impl.World){
		func(w *impl.World) { w.Now, w.Clients[0].Due = 90000, 90000 },
		func(w *impl.World) { w.Draw = 1000 },
		func(w *impl.World) { w.Draw = 800000 },
	} {
		checkEnds(t, changed(w, change), 30)
	}
	for _, change := range []func(w *impl.World){
		func(w *impl.World) { w.Gate = impl.Gate{} },
		func(w *impl.World) { w.Arena = impl.Arena{} },
		func(w *impl.World) { w.Arena.Nodes = fill(w.Arena.Nodes, 10) },
		func(w *impl.World) { w.Arena.Nodes = append(w.Arena.Nodes, hashNode(9999)) },
		func(w *impl.World) { w.Net = slices.Repeat([]impl.Letter{{From: 1, To: 99, Term: -1}}, 40) },
		func(w *impl.World) { w.Clients[1] = impl.Client{Name: -1, State: impl.ClFailed} },
		func(w *impl.World) { w.Addrs = []int{99, 99} },
	} {
		for _, n := range []int{0, 1, 2, 30} {
			checkCalm(t, changed(w, change), n)
		}
	}
}

func TestP20OpenIn(t *testing.T) {
	var clients []impl.Client
	for _, state := range []int{3, 0, 1, 2, 3, 4, 5, -1, 3 + 1<<32, 3} {
		clients = append(clients, impl.Client{State: state})
	}
	for end, want := range []int{0, 1, 1, 1, 1, 2, 2, 2, 2, 2, 3} {
		if got := impl.OpenIn(impl.World{Clients: clients[:end]}); got != want {
			t.Errorf("of %d clients %d are open; want %d", end, got, want)
		}
	}
}

func TestP20AnswersAreNewMemory(t *testing.T) {
	for _, mode := range bothModes {
		busy := steps(t, openWorld(t, mode), 0, eventOf(impl.EvSend, 0, 50), eventOf(impl.EvSend, 1, 10))
		for _, w := range []impl.World{impl.WorldNew(mode, twoRoutes), busy, changed(busy, func(w *impl.World) { w.Now = -1 })} {
			roomy, isAsItWas := roomyWorld(w)
			for _, n := range []int{-1, 0, 1, 30} {
				impl.OpenIn(roomy)
				scribbleWorld(impl.CalmWorld(roomy, n))
				if !isAsItWas() {
					t.Fatalf("by %d rounds an argument was changed", n)
				}
			}
		}
	}
}
