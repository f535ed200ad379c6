package tests

import (
	"math"
	"math/rand"
	"slices"
	"testing"

	"loop.example/g00466/impl"
)

// outside are places that no arena has.
var outside = []int{-1, -2, 3000, 3001, math.MaxInt, math.MinInt}

// secretAtom is an Atom that is had by nobody from the outset.
func secretAtom(n int) impl.Node { return atomNode(impl.FirstSecret + n) }

// plainCan is whether a node comes, of those that were had so far, by one of the document's rules.
func plainCan(nodes []impl.Node, had []bool, k int) bool {
	pub := func(x int) bool {
		at := slices.Index(nodes, pubNode(x))
		return at >= 0 && had[at]
	}
	n := nodes[k]
	switch n.Kind {
	case impl.TmAtom:
		if n.Num < 1000 {
			return true
		}
	case impl.TmHash, impl.TmPub:
		if had[n.A] {
			return true
		}
	case impl.TmDh:
		if had[n.A] && pub(n.B) || had[n.B] && pub(n.A) {
			return true
		}
	default:
		if had[n.A] && had[n.B] {
			return true
		}
	}
	for whole, m := range nodes {
		switch {
		case !had[whole]:
		case m.Kind == impl.TmPair && (m.A == k || m.B == k):
			return true
		case m.Kind == impl.TmSign && m.B == k:
			return true
		case m.Kind == impl.TmSeal && m.B == k && had[m.A]:
			return true
		}
	}
	return false
}

// plainReach asks all nodes again and again, as long as one comes.
func plainReach(nodes []impl.Node, known []int) []bool {
	if !plainArenaOk(nodes) {
		return nil
	}
	had := make([]bool, len(nodes))
	for _, k := range known {
		if 0 <= k && k < len(nodes) {
			had[k] = true
		}
	}
	for again := true; again; {
		again = false
		for k := range nodes {
			if !had[k] && plainCan(nodes, had, k) {
				had[k], again = true, true
			}
		}
	}
	return had
}

// placesHad are the places that an answer of Reach tells of.
func placesHad(had []bool) []int {
	var places []int
	for k, h := range had {
		if h {
			places = append(places, k)
		}
	}
	return places
}

func everyPlace(n int) []int {
	places := make([]int, n)
	for k := range places {
		places[k] = k
	}
	return places
}

// checkHad asks Reach, and Derives at all places and beside them, for just these.
func checkHad(t *testing.T, nodes []impl.Node, known []int, want ...int) {
	t.Helper()
	a := arenaOf(nodes...)
	had := impl.Reach(a, known)
	if got := placesHad(had); len(had) != len(nodes) || !slices.Equal(got, want) {
		t.Fatalf("Reach(%s of %d nodes, %s) has %s of %d; want %s of %d", brief(nodes), len(nodes), brief(known), brief(got), len(had), brief(want), len(nodes))
	}
	if len(nodes) > 100 {
		return
	}
	for k := -2; k <= len(nodes)+1; k++ {
		if got := impl.Derives(a, known, k); got != slices.Contains(want, k) {
			t.Fatalf("Derives(%v, %v, %d) = %v; Reach has %v", nodes, known, k, got, want)
		}
	}
}

// checkNothing asks that there is no answer, and that nothing can be had by it.
func checkNothing(t *testing.T, nodes []impl.Node, known []int) {
	t.Helper()
	a := arenaOf(nodes...)
	if had := impl.Reach(a, known); len(had) != 0 {
		t.Fatalf("Reach(%s of %d nodes, %v) = %s; want nothing", brief(nodes), len(nodes), known, brief(had))
	}
	for _, k := range append([]int{0, 1, 2, len(nodes) - 1, len(nodes)}, outside...) {
		if impl.Derives(a, known, k) {
			t.Fatalf("Derives(%s of %d nodes, %v, %d) = true; Reach has nothing", brief(nodes), len(nodes), known, k)
		}
	}
}

func TestP5FirstSecret(t *testing.T) {
	if impl.FirstSecret != 1000 {
		t.Fatalf("FirstSecret is %d; want 1000", impl.FirstSecret)
	}
	nodes := []impl.Node{atomNode(0), atomNode(999999), atomNode(999), atomNode(1000), atomNode(998), atomNode(1001), atomNode(1)}
	checkHad(t, nodes, nil, 0, 2, 4, 6)
	checkHad(t, nodes, []int{2}, 0, 2, 4, 6)
	checkHad(t, nodes, []int{3}, 0, 2, 3, 4, 6)
	checkHad(t, nodes, []int{1, 5}, 0, 1, 2, 4, 5, 6)
	checkHad(t, []impl.Node{atomNode(999), hashNode(0), pairNode(0, 1)}, nil, 0, 1, 2)
	checkHad(t, []impl.Node{atomNode(1000), hashNode(0), pairNode(0, 1)}, nil)
}

func TestP5EachKindIsMade(t *testing.T) {
	for _, kind := range oneKinds {
		nodes := []impl.Node{secretAtom(0), secretAtom(1), kindNode(kind, 1, 0)}
		checkHad(t, nodes, nil)
		checkHad(t, nodes, []int{0}, 0)
		checkHad(t, nodes, []int{1}, 1, 2)
		checkHad(t, nodes, []int{0, 1}, 0, 1, 2)
	}
	for _, kind := range madeKinds {
		if partsOfKind(kind) != 2 {
			continue
		}
		nodes := []impl.Node{secretAtom(0), secretAtom(1), kindNode(kind, 0, 1), kindNode(kind, 1, 0), kindNode(kind, 1, 1)}
		checkHad(t, nodes, nil)
		checkHad(t, nodes, []int{0}, 0)
		checkHad(t, nodes, []int{1}, 1, 4)
		checkHad(t, nodes, []int{0, 1}, 0, 1, 2, 3, 4)
		open := []impl.Node{atomNode(999), secretAtom(1), kindNode(kind, 0, 1), kindNode(kind, 1, 0), kindNode(kind, 0, 0)}
		checkHad(t, open, nil, 0, 4)
		checkHad(t, open, []int{1}, 0, 1, 2, 3, 4)
	}
}

// What was made is of use for the next one, up to the end.
func TestP5WhatIsMadeOfWhatIsMade(t *testing.T) {
	nodes := []impl.Node{secretAtom(0), secretAtom(1), hashNode(0)}
	for i, kind := range madeKinds {
		nodes = append(nodes, kindNode(kind, i+2, 0))
		if partsOfKind(kind) == 2 {
			nodes[i+3].B = i + 1
		}
	}
	checkHad(t, nodes, nil)
	checkHad(t, nodes, []int{0}, 0, 2)
	checkHad(t, nodes, []int{0, 1}, everyPlace(len(nodes))...)
}

func TestP5EachKindIsTakenApart(t *testing.T) {
	for _, kind := range twoKinds {
		nodes := []impl.Node{secretAtom(0), secretAtom(1), kindNode(kind, 0, 1)}
		switch kind {
		case impl.TmPair:
			checkHad(t, nodes, []int{2}, 0, 1, 2)
		case impl.TmSign:
			checkHad(t, nodes, []int{2}, 1, 2)
			checkHad(t, nodes, []int{0, 2}, 0, 1, 2)
		case impl.TmSeal:
			checkHad(t, nodes, []int{2}, 2)
			checkHad(t, nodes, []int{0, 2}, 0, 1, 2)
		default:
			checkHad(t, nodes, []int{2}, 2)
			checkHad(t, nodes, []int{0, 2}, 0, 2)
		}
		if kind != impl.TmPair {
			checkHad(t, nodes, []int{1, 2}, 1, 2)
		}
	}
}

// What is of one way gives none of what it was made of, whatever else is had.
func TestP5OneWay(t *testing.T) {
	for _, kind := range oneKinds {
		checkHad(t, []impl.Node{secretAtom(0), secretAtom(1), kindNode(kind, 0, 0)}, []int{2}, 2)
		checkHad(t, []impl.Node{secretAtom(0), secretAtom(1), kindNode(kind, 1, 0)}, []int{0, 2}, 0, 2)
	}
	for _, kind := range []int{impl.TmKdf, impl.TmMac, impl.TmDh} {
		nodes := []impl.Node{secretAtom(0), secretAtom(1), pubNode(0), pubNode(1), kindNode(kind, 0, 1), kindNode(kind, 0, 0)}
		checkHad(t, nodes, []int{4, 5}, 4, 5)
		checkHad(t, nodes, []int{2, 4, 5}, 2, 4, 5)
	}
}

func TestP5SignTellsWhatWasSignedNotTheSecret(t *testing.T) {
	nodes := []impl.Node{secretAtom(0), secretAtom(1), pubNode(0), signNode(0, 1), signNode(0, 0), signNode(0, 3), pairNode(2, 3)}
	checkHad(t, nodes, []int{3}, 1, 3)
	checkHad(t, nodes, []int{5}, 1, 3, 5)
	checkHad(t, nodes, []int{6}, 1, 2, 3, 6)
	checkHad(t, nodes, []int{1, 2}, 1, 2)
	checkHad(t, nodes, []int{0}, 0, 2, 4)
	checkHad(t, nodes, []int{0, 1}, everyPlace(len(nodes))...)
	checkHad(t, []impl.Node{secretAtom(0), secretAtom(1), secretAtom(2), signNode(0, 1), signNode(2, 0)}, []int{3}, 1, 3)
	// What was signed may be the secret itself.
	checkHad(t, []impl.Node{secretAtom(0), signNode(0, 0), pubNode(0)}, []int{1}, 0, 1, 2)
}

func TestP5DhByEitherSecret(t *testing.T) {
	for _, dh := range []impl.Node{dhNode(0, 1), dhNode(1, 0)} {
		nodes := []impl.Node{secretAtom(0), secretAtom(1), pubNode(0), pubNode(1), dh}
		checkHad(t, nodes, nil)
		checkHad(t, nodes, []int{0}, 0, 2)
		checkHad(t, nodes, []int{1}, 1, 3)
		checkHad(t, nodes, []int{0, 2}, 0, 2)
		checkHad(t, nodes, []int{1, 3}, 1, 3)
		checkHad(t, nodes, []int{2, 3}, 2, 3)
		checkHad(t, nodes, []int{0, 3}, 0, 2, 3, 4)
		checkHad(t, nodes, []int{1, 2}, 1, 2, 3, 4)
		checkHad(t, nodes, []int{0, 1}, 0, 1, 2, 3, 4)
	}
	own := []impl.Node{secretAtom(0), pubNode(0), dhNode(0, 0)}
	checkHad(t, own, []int{0}, 0, 1, 2)
	checkHad(t, own, []int{1}, 1)
	checkHad(t, own, []int{2}, 2)
}

// A TmPub may stand behind its TmDh, and come behind all others.
func TestP5PubBehindTheDh(t *testing.T) {
	for _, dh := range []impl.Node{dhNode(0, 1), dhNode(1, 0)} {
		nodes := []impl.Node{secretAtom(0), secretAtom(1), dh, secretAtom(2), pubNode(1), hashNode(2), pubNode(0), sealNode(5, 3)}
		checkHad(t, nodes, []int{0}, 0, 6)
		checkHad(t, nodes, []int{0, 4}, 0, 2, 4, 5, 6)
		checkHad(t, nodes, []int{1, 6}, 1, 2, 4, 5, 6)
		checkHad(t, nodes, []int{0, 4, 7}, 0, 2, 3, 4, 5, 6, 7)
		checkHad(t, nodes, []int{4, 6, 7}, 4, 6, 7)
		// The TmPub itself comes late, out of a pair at the end.
		late := append(slices.Clone(nodes), pairNode(3, 4))
		checkHad(t, late, []int{0, 8}, 0, 2, 3, 4, 5, 6, 7, 8)
		checkHad(t, late, []int{8}, 3, 4, 8)
	}
}

func TestP5DhWithoutAPub(t *testing.T) {
	for _, dh := range []impl.Node{dhNode(0, 1), dhNode(1, 0)} {
		none := []impl.Node{secretAtom(0), secretAtom(1), dh}
		checkHad(t, none, []int{0}, 0)
		checkHad(t, none, []int{1}, 1)
		checkHad(t, none, []int{0, 1}, 0, 1)
		one := []impl.Node{secretAtom(0), secretAtom(1), pubNode(0), dh}
		checkHad(t, one, []int{0}, 0, 2)
		checkHad(t, one, []int{1}, 1)
		checkHad(t, one, []int{2}, 2)
		checkHad(t, one, []int{1, 2}, 1, 2, 3)
		checkHad(t, one, []int{0, 1}, 0, 1, 2, 3)
		// A hash of the other one, a pub of its pub, and a pub of a third one are no pubs of it.
		others := []impl.Node{secretAtom(0), secretAtom(1), secretAtom(2), pubNode(1), hashNode(1), pubNode(3), pubNode(2), dh}
		checkHad(t, others, []int{0, 4, 5, 6}, 0, 4, 5, 6)
		checkHad(t, others, []int{0, 4, 5, 6, 3}, 0, 3, 4, 5, 6, 7)
	}
	checkHad(t, []impl.Node{secretAtom(0), dhNode(0, 0)}, []int{0}, 0)
	checkHad(t, []impl.Node{atomNode(5), atomNode(6), dhNode(0, 1)}, nil, 0, 1)
	checkHad(t, []impl.Node{atomNode(5), atomNode(6), dhNode(0, 1), pubNode(1)}, nil, 0, 1, 2, 3)
}

func TestP5KeysThatComeLate(t *testing.T) {
	for _, c := range []struct {
		name  string
		nodes []impl.Node
		known []int
		want  []int
	}{
		{"out of a pair behind the seal", []impl.Node{secretAtom(0), secretAtom(1), sealNode(0, 1), pairNode(0, 2)}, []int{3}, []int{0, 1, 2, 3}},
		{"as the B of a pair", []impl.Node{secretAtom(0), secretAtom(1), sealNode(0, 1), pairNode(2, 0)}, []int{3}, []int{0, 1, 2, 3}},
		{"out of a sign", []impl.Node{secretAtom(0), secretAtom(1), secretAtom(2), sealNode(0, 1), signNode(2, 0)}, []int{3, 4}, []int{0, 1, 3, 4}},
		{"out of another seal, further behind", []impl.Node{secretAtom(0), secretAtom(1), sealNode(0, 1), secretAtom(2), sealNode(3, 0), pairNode(3, 3)}, []int{2, 4, 5}, []int{0, 1, 2, 3, 4, 5}},
		{"out of another seal, whose key is a hash", []impl.Node{secretAtom(0), secretAtom(1), sealNode(0, 1), secretAtom(2), hashNode(3), sealNode(4, 0), pairNode(3, 2)}, []int{5, 6}, []int{0, 1, 2, 3, 4, 5, 6}},
		{"made of what is further behind", []impl.Node{secretAtom(0), hashNode(0), secretAtom(1), sealNode(1, 2), pairNode(0, 0)}, []int{3, 4}, []int{0, 1, 2, 3, 4}},
		{"made of what the seal's neighbour has", []impl.Node{secretAtom(0), secretAtom(1), kindNode(impl.TmKdf, 0, 1), secretAtom(2), sealNode(2, 3), sealNode(1, 0), pairNode(1, 4)}, []int{5, 6}, []int{0, 1, 2, 3, 4, 5, 6}},
		{"out of what another seal had in a pair", []impl.Node{secretAtom(0), secretAtom(1), secretAtom(2), pairNode(0, 2), sealNode(1, 3), sealNode(0, 4), pairNode(1, 4)}, []int{6}, []int{0, 1, 2, 3, 4, 5, 6}},
		{"the seal comes behind its key", []impl.Node{secretAtom(0), secretAtom(1), sealNode(0, 1), secretAtom(2), sealNode(3, 2), pairNode(0, 3)}, []int{4, 5}, []int{0, 1, 2, 3, 4, 5}},
		{"a secret of two, whose pub comes last", []impl.Node{secretAtom(0), secretAtom(1), dhNode(0, 1), secretAtom(2), sealNode(2, 3), pubNode(1), secretAtom(3), sealNode(6, 5), pairNode(6, 0)}, []int{4, 7, 8}, []int{0, 2, 3, 4, 5, 6, 7, 8}},
		{"a secret of two, whose pub is sealed by what is sealed itself", []impl.Node{secretAtom(0), secretAtom(1), dhNode(0, 1), pubNode(1), secretAtom(2), secretAtom(3), secretAtom(4), sealNode(4, 3), sealNode(5, 4), sealNode(6, 5), pairNode(0, 6)}, []int{0, 7, 8, 9, 10}, []int{0, 2, 3, 4, 5, 6, 7, 8, 9, 10}},
		{"the same with the secrets turned around", []impl.Node{secretAtom(0), secretAtom(1), dhNode(1, 0), pubNode(1), secretAtom(2), secretAtom(3), secretAtom(4), sealNode(4, 3), sealNode(5, 4), sealNode(6, 5), pairNode(0, 6)}, []int{0, 7, 8, 9, 10}, []int{0, 2, 3, 4, 5, 6, 7, 8, 9, 10}},
		{"never, sealed by itself", []impl.Node{secretAtom(0), sealNode(0, 0)}, []int{1}, []int{1}},
		{"never, sealed in a ring", []impl.Node{secretAtom(0), secretAtom(1), sealNode(0, 1), sealNode(1, 0)}, []int{2, 3}, []int{2, 3}},
		{"never, of a hash of the key alone", []impl.Node{secretAtom(0), secretAtom(1), sealNode(0, 1), hashNode(0)}, []int{2, 3}, []int{2, 3}},
		{"never, of what it opens", []impl.Node{secretAtom(0), secretAtom(1), sealNode(0, 1)}, []int{1, 2}, []int{1, 2}},
	} {
		t.Run(c.name, func(t *testing.T) {
			checkHad(t, c.nodes, c.known, c.want...)
			slices.Reverse(c.known)
			checkHad(t, c.nodes, c.known, c.want...)
		})
	}
}

// Each key opens a seal with the next one in it; the seals stand in the arena in any order.
func TestP5KeysBehindKeys(t *testing.T) {
	draw := rand.New(rand.NewSource(8))
	const keys = impl.MaxNodes / 2
	forth := everyPlace(keys - 1)
	back := slices.Clone(forth)
	slices.Reverse(back)
	for _, order := range [][]int{forth, back, draw.Perm(keys - 1), draw.Perm(keys - 1)} {
		var nodes []impl.Node
		for i := range keys {
			nodes = append(nodes, secretAtom(i))
		}
		for _, i := range order {
			nodes = append(nodes, sealNode(i, i+1))
		}
		nodes = append(nodes, hashNode(keys-1))
		seals := everyPlace(len(nodes) - 1)[keys:]
		checkHad(t, nodes, seals, seals...)
		checkHad(t, nodes, append(slices.Clone(seals), 0), everyPlace(len(nodes))...)
		checkHad(t, nodes, append([]int{0}, seals...), everyPlace(len(nodes))...)
		wantKeys := everyPlace(len(nodes))[keys/2:]
		checkHad(t, nodes, append(slices.Clone(seals), keys/2), wantKeys...)
	}
}

// One step brings the next one, from the first node to the last one and back.
func TestP5FullArena(t *testing.T) {
	hashes := []impl.Node{secretAtom(0)}
	pairs := []impl.Node{secretAtom(0), secretAtom(1)}
	for len(hashes) < impl.MaxNodes {
		hashes = append(hashes, hashNode(len(hashes)-1))
	}
	for len(pairs) < impl.MaxNodes {
		pairs = append(pairs, pairNode(len(pairs)%2, len(pairs)-1))
	}
	all := everyPlace(impl.MaxNodes)
	checkHad(t, hashes, nil)
	checkHad(t, hashes, []int{0}, all...)
	checkHad(t, hashes, []int{1000}, all[1000:]...)
	checkHad(t, hashes, []int{2999}, 2999)
	checkHad(t, pairs, nil)
	checkHad(t, pairs, []int{0}, 0)
	checkHad(t, pairs, []int{2999}, all...)
	checkHad(t, pairs, []int{0, 1}, all...)
	if !impl.Derives(arenaOf(hashes...), []int{0}, 2999) || impl.Derives(arenaOf(hashes...), []int{0}, 3000) {
		t.Fatal("Derives at the last place of a full arena, and behind it")
	}
	checkHad(t, atomsArena(impl.MaxNodes).Nodes, nil, all[:impl.FirstSecret]...)
	for _, nodes := range [][]impl.Node{hashes, pairs, atomsArena(impl.MaxNodes).Nodes} {
		checkNothing(t, append(slices.Clone(nodes), hashNode(5)), []int{0, 1, 2999})
		checkNothing(t, append(slices.Clone(nodes), atomNode(777777)), nil)
	}
}

func TestP5ArenaOfNothing(t *testing.T) {
	for _, known := range [][]int{nil, {}, {0}, {-1, 0, 1}, outside} {
		checkNothing(t, nil, known)
		checkNothing(t, []impl.Node{}, known)
		checkHad(t, nil, known)
	}
}

// Where a place stands among the known ones, and how often, is nothing to go by; what is no place tells nothing.
func TestP5KnownPlaces(t *testing.T) {
	nodes := []impl.Node{secretAtom(0), secretAtom(1), sealNode(0, 1), atomNode(7), hashNode(1)}
	checkHad(t, nodes, nil, 3)
	checkHad(t, nodes, []int{}, 3)
	for _, known := range [][]int{{0, 2}, {2, 0}, {2, 0, 2, 0, 0}, {3, 3, 0, 2}, {0, -1, 2, 5}, {5, 6, 7, 2, 0}, append([]int{2, 0}, outside...), append(slices.Clone(outside), 2, 0)} {
		checkHad(t, nodes, known, 0, 1, 2, 3, 4)
	}
	checkHad(t, nodes, outside, 3)
	for _, k := range append([]int{5, 6, -5}, outside...) {
		checkHad(t, nodes, []int{k}, 3)
		checkHad(t, nodes, []int{k, 1, k}, 1, 3, 4)
	}
	many := make([]int, 1000000)
	for i := range many {
		many[i] = i%3*2 - 2
	}
	checkHad(t, nodes, many, 0, 1, 2, 3, 4)
}

func TestP5DerivesOutside(t *testing.T) {
	a := arenaOf(atomNode(7), secretAtom(0), hashNode(0))
	for _, known := range [][]int{nil, {0, 1, 2}, outside} {
		for _, k := range append([]int{3, 4, -3}, outside...) {
			if impl.Derives(a, append(slices.Clone(known), k), k) {
				t.Fatalf("Derives(%v, %v and %d, %d) = true; there is no such place", a, known, k, k)
			}
		}
	}
}

func TestP5WrongArenas(t *testing.T) {
	right := []impl.Node{atomNode(5), secretAtom(0), pubNode(1), sealNode(1, 0), signNode(1, 3), pairNode(3, 2), atomNode(9)}
	all := everyPlace(len(right) + 1)
	checkHad(t, right, all, all[:len(right)]...)
	for at := range right {
		for _, wrong := range wrongNodes {
			nodes := slices.Clone(right)
			nodes[at] = wrong
			checkNothing(t, nodes, nil)
			checkNothing(t, nodes, all)
			checkNothing(t, append(slices.Clone(right), wrong), all)
		}
		for _, kind := range twoKinds {
			for _, x := range append([]int{at, at + 1, len(right)}, outside...) {
				nodes := slices.Clone(right)
				nodes[at] = kindNode(kind, x, 0)
				checkNothing(t, nodes, all)
				nodes[at] = kindNode(kind, 0, x)
				checkNothing(t, nodes, all)
			}
		}
		twice := append(slices.Clone(right), right[at])
		checkNothing(t, twice, nil)
		checkNothing(t, twice, all)
	}
	checkNothing(t, []impl.Node{hashNode(0)}, []int{0})
	checkNothing(t, []impl.Node{atomNode(7), atomNode(7)}, nil)
}

// drawRight draws a right arena with many secrets, of which not all are of use.
func drawRight(draw *rand.Rand, size int) []impl.Node {
	nodes := []impl.Node{secretAtom(0), secretAtom(1)}
	for range size {
		x, y := draw.Intn(len(nodes)), draw.Intn(len(nodes))
		var n impl.Node
		switch kind := 1 + draw.Intn(9); partsOfKind(kind) {
		case 0:
			n = atomNode(996 + draw.Intn(20))
		case 1:
			n = kindNode(kind, x, 0)
		default:
			n = kindNode(kind, x, y)
		}
		nodes, _ = plainPut(nodes, n)
		if n.Kind == impl.TmDh && draw.Intn(2) == 0 {
			nodes, _ = plainPut(nodes, pubNode([]int{x, y}[draw.Intn(2)]))
		}
	}
	return nodes
}

func drawKnown(draw *rand.Rand, end int, most int) []int {
	known := make([]int, draw.Intn(most+1))
	for i := range known {
		known[i] = draw.Intn(end+4) - 2
	}
	return known
}

func TestP5DrawnRightArenas(t *testing.T) {
	draw := rand.New(rand.NewSource(9))
	for range 6000 {
		nodes := drawRight(draw, draw.Intn(24))
		known := drawKnown(draw, len(nodes), 4)
		checkHad(t, nodes, known, placesHad(plainReach(nodes, known))...)
	}
	for range 4 {
		nodes := drawRight(draw, 500)
		known := drawKnown(draw, len(nodes), 40)
		checkHad(t, nodes, known, placesHad(plainReach(nodes, known))...)
	}
}

// Drawn arenas, most of them not right.
func TestP5DrawnArenas(t *testing.T) {
	draw := rand.New(rand.NewSource(10))
	for range 20000 {
		var nodes []impl.Node
		for k := range draw.Intn(7) {
			nodes = append(nodes, drawNode(draw, max(k-1, 0)))
			if nodes[k].Kind == impl.TmAtom && nodes[k].Num > 0 {
				nodes[k].Num += 998
			}
		}
		known := drawKnown(draw, len(nodes), 3)
		if !plainArenaOk(nodes) {
			checkNothing(t, nodes, known)
			continue
		}
		checkHad(t, nodes, known, placesHad(plainReach(nodes, known))...)
	}
}

// Who knows more has no less; who knows all that can be had, or some of it beside, can have no more.
func TestP5WhoKnowsMore(t *testing.T) {
	draw := rand.New(rand.NewSource(11))
	for range 2000 {
		nodes := drawRight(draw, draw.Intn(30))
		known := drawKnown(draw, len(nodes), 4)
		had := placesHad(impl.Reach(arenaOf(nodes...), known))
		checkHad(t, nodes, had, had...)
		checkHad(t, nodes, slices.Concat(known, had[:draw.Intn(len(had)+1)]), had...)
		more := slices.Concat(drawKnown(draw, len(nodes), 2), known, drawKnown(draw, len(nodes), 2))
		moreHad := placesHad(impl.Reach(arenaOf(nodes...), more))
		for _, k := range had {
			if !slices.Contains(moreHad, k) {
				t.Fatalf("%v: who knows %v has %d, who knows %v has it not", nodes, known, k, more)
			}
		}
		for _, k := range known {
			if 0 <= k && k < len(nodes) && !slices.Contains(had, k) {
				t.Fatalf("%v: who knows %v has %d not", nodes, known, k)
			}
		}
	}
}

// What is made of what can be had can be had, too; and who had something has it in the greater arena.
func TestP5WhatIsMadeOfWhatCanBeHad(t *testing.T) {
	draw := rand.New(rand.NewSource(12))
	for range 600 {
		a := arenaOf(drawRight(draw, draw.Intn(20))...)
		known := drawKnown(draw, len(a.Nodes)-3, 4)
		had := placesHad(impl.Reach(a, known))
		if len(had) == 0 {
			continue
		}
		x, y := had[draw.Intn(len(had))], had[draw.Intn(len(had))]
		for _, kind := range madeKinds {
			b, k := impl.Make(a, kind, x, y)
			checkDerived(t, b, known, append(had, k))
		}
		b, k := impl.List(a, had)
		checkDerived(t, b, known, append(had, k))
		b, pub := impl.Make(a, impl.TmPub, x, 0)
		b, k = impl.DhOf(b, y, pub)
		checkDerived(t, b, known, append(had, pub, k))
	}
}

func checkDerived(t *testing.T, a impl.Arena, known []int, want []int) {
	t.Helper()
	had := impl.Reach(a, known)
	for _, k := range want {
		if !had[k] || !impl.Derives(a, known, k) {
			t.Fatalf("%v: who knows %v has %d not", a.Nodes, known, k)
		}
	}
}

// Every answer is changed all over; the arguments and the spare room behind them stay as they are, and so does the next answer.
func TestP5AnswersAreNewMemory(t *testing.T) {
	first := []impl.Node{secretAtom(0), secretAtom(1), sealNode(0, 1), pubNode(1), dhNode(0, 1), atomNode(7)}
	spare := impl.Node{Kind: 55, Num: 55, A: 55, B: 55}
	room := append(slices.Clone(first), spare, spare, spare)
	a := impl.Arena{Nodes: room[:len(first)]}
	places := []int{2, 0, 2, -1, 66, 66, 66}
	known := places[:4]
	for range 2 {
		for _, k := range [][]int{nil, known[:1], known} {
			had := impl.Reach(a, k)
			had = had[:cap(had)]
			for i := range had {
				had[i] = !had[i]
			}
			impl.Derives(a, k, 1)
			impl.Derives(a, k, 66)
		}
		impl.Reach(impl.Arena{Nodes: room[:len(first)+1]}, known)
		if !slices.Equal(room, append(slices.Clone(first), spare, spare, spare)) {
			t.Fatalf("the arena, or the room behind it, became %v", room)
		}
		if !slices.Equal(places, []int{2, 0, 2, -1, 66, 66, 66}) {
			t.Fatalf("the known ones, or the room behind them, became %v", places)
		}
		checkHad(t, first, known, 0, 1, 2, 3, 4, 5)
		checkHad(t, first, known[:1], 2, 5)
	}
}
