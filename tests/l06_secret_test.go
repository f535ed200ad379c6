package tests

import (
	"fmt"
	"math"
	"math/rand"
	"slices"
	"testing"

	"loop.example/g00466/impl"
)

func kdfNode(a, b int) impl.Node { return kindNode(impl.TmKdf, a, b) }

func macNode(a, b int) impl.Node { return kindNode(impl.TmMac, a, b) }

// A plainStep is a node to be put, of the places of those that were put ahead of it.
type plainStep func(at []int) impl.Node

func stepNode(n impl.Node) plainStep { return func([]int) impl.Node { return n } }

// plainSteps puts one behind the other, and leaves nothing when one of them can't be.
func plainSteps(nodes []impl.Node, steps ...plainStep) ([]impl.Node, int) {
	with, at, k := nodes, []int{}, -1
	for _, step := range steps {
		if with, k = plainPut(with, step(at)); k < 0 {
			return nodes, -1
		}
		at = append(at, k)
	}
	return with, k
}

func plainHand(nodes []impl.Node, shared, psk, both int) ([]impl.Node, int) {
	return plainSteps(nodes, stepNode(pairNode(shared, psk)), stepNode(hashNode(both)),
		func(at []int) impl.Node { return kdfNode(at[0], at[1]) })
}

func plainSide(nodes []impl.Node, secret, side int) ([]impl.Node, int) {
	return plainSteps(nodes, stepNode(atomNode(side)),
		func(at []int) impl.Node { return kdfNode(secret, at[0]) })
}

func plainDone(nodes []impl.Node, secret, side, said int) ([]impl.Node, int) {
	if side > 999999 {
		return nodes, -1
	}
	return plainSteps(nodes, stepNode(atomNode(10+side)),
		func(at []int) impl.Node { return kdfNode(secret, at[0]) }, stepNode(hashNode(said)),
		func(at []int) impl.Node { return macNode(at[1], at[2]) })
}

func plainApp(nodes []impl.Node, secret, said int) ([]impl.Node, int) {
	return plainSteps(nodes, stepNode(atomNode(20)),
		func(at []int) impl.Node { return kdfNode(secret, at[0]) }, stepNode(hashNode(said)),
		func(at []int) impl.Node { return kdfNode(at[1], at[2]) })
}

func plainEpoch(nodes []impl.Node, app, epoch int) ([]impl.Node, int) {
	if epoch < 0 || epoch > 8 || !plainNodeOk(nodes, app) {
		return nodes, -1
	}
	if epoch == 0 {
		return nodes, app
	}
	steps := []plainStep{stepNode(atomNode(30)), func(at []int) impl.Node { return kdfNode(app, at[0]) }}
	for range epoch - 1 {
		steps = append(steps, func(at []int) impl.Node { return kdfNode(at[len(at)-1], at[0]) })
	}
	return plainSteps(nodes, steps...)
}

// A secretCall is a function of the chapter with all its arguments but the arena: by the program, and the plain way.
type secretCall struct {
	name  string
	call  func(a impl.Arena) (impl.Arena, int)
	plain func(nodes []impl.Node) ([]impl.Node, int)
}

func handCall(shared, psk, both int) secretCall {
	return secretCall{fmt.Sprintf("HandSecret(.., %d, %d, %d)", shared, psk, both),
		func(a impl.Arena) (impl.Arena, int) { return impl.HandSecret(a, shared, psk, both) },
		func(nodes []impl.Node) ([]impl.Node, int) { return plainHand(nodes, shared, psk, both) }}
}

func sideCall(secret, side int) secretCall {
	return secretCall{fmt.Sprintf("SideKey(.., %d, %d)", secret, side),
		func(a impl.Arena) (impl.Arena, int) { return impl.SideKey(a, secret, side) },
		func(nodes []impl.Node) ([]impl.Node, int) { return plainSide(nodes, secret, side) }}
}

func doneCall(secret, side, said int) secretCall {
	return secretCall{fmt.Sprintf("DoneMac(.., %d, %d, %d)", secret, side, said),
		func(a impl.Arena) (impl.Arena, int) { return impl.DoneMac(a, secret, side, said) },
		func(nodes []impl.Node) ([]impl.Node, int) { return plainDone(nodes, secret, side, said) }}
}

func appCall(secret, said int) secretCall {
	return secretCall{fmt.Sprintf("AppSecret(.., %d, %d)", secret, said),
		func(a impl.Arena) (impl.Arena, int) { return impl.AppSecret(a, secret, said) },
		func(nodes []impl.Node) ([]impl.Node, int) { return plainApp(nodes, secret, said) }}
}

func epochCall(app, epoch int) secretCall {
	return secretCall{fmt.Sprintf("EpochSecret(.., %d, %d)", app, epoch),
		func(a impl.Arena) (impl.Arena, int) { return impl.EpochSecret(a, app, epoch) },
		func(nodes []impl.Node) ([]impl.Node, int) { return plainEpoch(nodes, app, epoch) }}
}

func checkSecret(t *testing.T, nodes []impl.Node, c secretCall, want []impl.Node, wantK int) {
	t.Helper()
	if got := made(c.call(arenaOf(nodes...))); !got.is(want, wantK) {
		t.Fatalf("%s in %s of %d nodes = %v; want %v", c.name, brief(nodes), len(nodes), got, madeArena{want, wantK})
	}
}

// checkPlain holds calls against their plain ways.
func checkPlain(t *testing.T, nodes []impl.Node, calls ...secretCall) {
	t.Helper()
	for _, c := range calls {
		want, k := c.plain(nodes)
		checkSecret(t, nodes, c, want, k)
	}
}

// checkRefused asks for -1, and the arena as it is.
func checkRefused(t *testing.T, nodes []impl.Node, calls ...secretCall) {
	t.Helper()
	for _, c := range calls {
		checkSecret(t, nodes, c, nodes, -1)
	}
}

// secretCase is a call among three secrets at 0, 1 and 2, and the nodes that it brings behind them, the last one being the term.
type secretCase struct {
	call   secretCall
	brings []impl.Node
}

var threeSecrets = []impl.Node{secretAtom(0), secretAtom(1), secretAtom(2)}

func secretCases() []secretCase {
	of := func(c secretCall, brings ...impl.Node) secretCase { return secretCase{c, brings} }
	return []secretCase{
		of(handCall(0, 1, 2), pairNode(0, 1), hashNode(2), kdfNode(3, 4)),
		of(handCall(1, 0, 2), pairNode(1, 0), hashNode(2), kdfNode(3, 4)),
		of(handCall(2, 2, 2), pairNode(2, 2), hashNode(2), kdfNode(3, 4)),
		of(sideCall(0, impl.SideClient), atomNode(1), kdfNode(0, 3)),
		of(sideCall(0, impl.SideServer), atomNode(2), kdfNode(0, 3)),
		of(sideCall(2, impl.SideServer), atomNode(2), kdfNode(2, 3)),
		of(doneCall(0, impl.SideClient, 1), atomNode(11), kdfNode(0, 3), hashNode(1), macNode(4, 5)),
		of(doneCall(0, impl.SideServer, 1), atomNode(12), kdfNode(0, 3), hashNode(1), macNode(4, 5)),
		of(doneCall(2, impl.SideServer, 2), atomNode(12), kdfNode(2, 3), hashNode(2), macNode(4, 5)),
		of(appCall(0, 1), atomNode(20), kdfNode(0, 3), hashNode(1), kdfNode(4, 5)),
		of(appCall(2, 2), atomNode(20), kdfNode(2, 3), hashNode(2), kdfNode(4, 5)),
		of(epochCall(0, 1), atomNode(30), kdfNode(0, 3)),
		of(epochCall(2, 1), atomNode(30), kdfNode(2, 3)),
		of(epochCall(1, 2), atomNode(30), kdfNode(1, 3), kdfNode(4, 3)),
		of(epochCall(1, 8), atomNode(30), kdfNode(1, 3), kdfNode(4, 3), kdfNode(5, 3), kdfNode(6, 3), kdfNode(7, 3), kdfNode(8, 3), kdfNode(9, 3), kdfNode(10, 3)),
	}
}

func TestP6Sides(t *testing.T) {
	if impl.SideClient != 1 || impl.SideServer != 2 {
		t.Errorf("sides are %d and %d; want 1 and 2", impl.SideClient, impl.SideServer)
	}
}

// checkNodeByNode asks for what a call brings, node by node, in the order in which they are made; once more, when all of them are there; and when each beginning of them is.
func checkNodeByNode(t *testing.T, c secretCase) {
	t.Helper()
	want := slices.Concat(threeSecrets, c.brings)
	for there := range len(c.brings) + 1 {
		checkSecret(t, want[:3+there], c.call, want, len(want)-1)
	}
	behind := slices.Concat(want, []impl.Node{atomNode(77), hashNode(len(want))})
	checkSecret(t, behind, c.call, behind, len(want)-1)
	if !impl.ArenaOk(arenaOf(want...)) {
		t.Errorf("%s makes an arena that is not right: %v", c.call.name, want)
	}
}

// checkAmong has others behind the three secrets, none of which the call asks for: what it brings stands behind them.
func checkAmong(t *testing.T, c secretCase, others ...impl.Node) {
	t.Helper()
	nodes := slices.Concat(threeSecrets, others)
	want := slices.Clone(nodes)
	for _, n := range c.brings {
		n.A, n.B = behindOthers(n.A, len(others)), behindOthers(n.B, len(others))
		want = append(want, n)
	}
	checkSecret(t, nodes, c.call, want, len(want)-1)
}

func behindOthers(place int, others int) int {
	if place < len(threeSecrets) {
		return place
	}
	return place + others
}

func TestP6TermsNodeByNode(t *testing.T) {
	for _, c := range secretCases() {
		checkNodeByNode(t, c)
	}
}

// One that has others: what is made stands behind them, and of the chapter's own Atoms only those that are asked for count.
func TestP6AmongOthers(t *testing.T) {
	others := []impl.Node{atomNode(0), atomNode(3), atomNode(10), atomNode(13), atomNode(21), atomNode(31), pairNode(2, 1), hashNode(0), kdfNode(0, 1), macNode(0, 1)}
	for _, c := range secretCases() {
		checkAmong(t, c, others...)
	}
}

// Some are there already: each of a call's terms that is made of what is there alone.
func TestP6SomeAreThere(t *testing.T) {
	for _, c := range secretCases() {
		for _, n := range c.brings {
			for _, first := range []impl.Node{n, atomNode(1), atomNode(12), atomNode(20), atomNode(30), hashNode(1), hashNode(2)} {
				if nodes := slices.Concat(threeSecrets, []impl.Node{first}); plainArenaOk(nodes) {
					checkPlain(t, nodes, c.call)
					checkPlain(t, slices.Concat(nodes, []impl.Node{kdfNode(0, 3), kdfNode(1, 3), hashNode(0)}), c.call)
				}
			}
		}
	}
	nodes := slices.Concat(threeSecrets, []impl.Node{hashNode(1), atomNode(12)})
	checkSecret(t, nodes, doneCall(0, 2, 1), slices.Concat(nodes, []impl.Node{kdfNode(0, 4), macNode(5, 3)}), 6)
	checkSecret(t, nodes, appCall(0, 1), slices.Concat(nodes, []impl.Node{atomNode(20), kdfNode(0, 5), kdfNode(6, 3)}), 7)
	checkSecret(t, nodes, handCall(0, 1, 1), slices.Concat(nodes, []impl.Node{pairNode(0, 1), kdfNode(5, 3)}), 6)
	checkSecret(t, nodes, sideCall(0, 12), slices.Concat(nodes, []impl.Node{kdfNode(0, 4)}), 5)
}

// In an empty arena a place can only be one of what the call itself brings.
func TestP6EmptyArena(t *testing.T) {
	for _, side := range []int{1, 2} {
		checkSecret(t, nil, sideCall(0, side), []impl.Node{atomNode(side), kdfNode(0, 0)}, 1)
		checkSecret(t, nil, doneCall(0, side, 0), []impl.Node{atomNode(10 + side), kdfNode(0, 0), hashNode(0), macNode(1, 2)}, 3)
		checkSecret(t, nil, doneCall(0, side, 1), []impl.Node{atomNode(10 + side), kdfNode(0, 0), hashNode(1), macNode(1, 2)}, 3)
		checkRefused(t, nil, sideCall(1, side), sideCall(-1, side), doneCall(1, side, 0), doneCall(0, side, 2), doneCall(0, side, -1))
	}
	checkSecret(t, nil, appCall(0, 0), []impl.Node{atomNode(20), kdfNode(0, 0), hashNode(0), kdfNode(1, 2)}, 3)
	checkSecret(t, nil, appCall(0, 1), []impl.Node{atomNode(20), kdfNode(0, 0), hashNode(1), kdfNode(1, 2)}, 3)
	checkRefused(t, nil, appCall(1, 0), appCall(0, 2), appCall(-1, 0), appCall(0, -1), handCall(0, 0, 0), handCall(0, 0, -1))
	for epoch := -2; epoch <= 10; epoch++ {
		checkRefused(t, nil, epochCall(0, epoch), epochCall(-1, epoch), epochCall(1, epoch))
	}
}

// mustMake is the place of what is made, in an arena in which it can be.
func mustMake(t *testing.T, a impl.Arena, c secretCall) (impl.Arena, int) {
	t.Helper()
	b, k := c.call(a)
	if k < 0 || !slices.Equal(b.Nodes[:len(a.Nodes)], a.Nodes) {
		t.Fatalf("%s in %s of %d nodes = %s, %d; want what is there, and a place", c.name, brief(a.Nodes), len(a.Nodes), brief(b.Nodes), k)
	}
	return b, k
}

// Who has the secrets of one side, and all that is said of both, has none of the other one.
func TestP6SecretsOfOneSideAreNotThoseOfTheOther(t *testing.T) {
	a := arenaOf(threeSecrets...)
	var keys, macs [3]int
	for _, side := range []int{impl.SideClient, impl.SideServer} {
		a, keys[side] = mustMake(t, a, sideCall(0, side))
		a, macs[side] = mustMake(t, a, doneCall(0, side, 1))
	}
	for _, side := range []int{impl.SideClient, impl.SideServer} {
		other := impl.SideClient + impl.SideServer - side
		if keys[side] == keys[other] || macs[side] == macs[other] {
			t.Fatalf("sides have the same: keys %v, macs %v", keys[1:], macs[1:])
		}
		known := []int{keys[side], macs[side], macs[other], 1, 2}
		for _, k := range []int{0, keys[other], a.Nodes[macs[side]].A, a.Nodes[macs[other]].A} {
			if impl.Derives(a, known, k) {
				t.Errorf("who knows %v of %v has %d", known, a.Nodes, k)
			}
		}
		b, seal := impl.Make(a, impl.TmSeal, keys[side], 1)
		checkOpen(t, b, keys[side], seal, 1, true)
		checkOpen(t, b, keys[other], seal, -1, false)
	}
}

// All that the chapter makes of one secret is unlike: by sides, by what it is for, and by epochs.
func TestP6AllOfOneSecretAreUnlike(t *testing.T) {
	calls := []secretCall{
		sideCall(0, 1), sideCall(0, 2), sideCall(1, 1), sideCall(1, 2),
		doneCall(0, 1, 1), doneCall(0, 2, 1), doneCall(0, 1, 2), doneCall(0, 2, 2), doneCall(1, 1, 1), doneCall(1, 2, 1),
		appCall(0, 1), appCall(0, 2), appCall(1, 1), handCall(0, 1, 2), handCall(1, 0, 2), handCall(0, 1, 1), handCall(0, 2, 2),
	}
	for epoch := range 9 {
		calls = append(calls, epochCall(0, epoch), epochCall(1, epoch))
	}
	a, texts, places := arenaOf(threeSecrets...), map[string]string{}, make([]int, len(calls))
	for i, c := range calls {
		a, places[i] = mustMake(t, a, c)
		text, ok := impl.TermText(a, places[i])
		if old, twice := texts[text]; twice || !ok {
			t.Errorf("%s has the text %q, as %q has", c.name, text, old)
		}
		texts[text] = c.name
	}
	if !impl.ArenaOk(a) {
		t.Fatalf("what is made makes an arena that is not right: %v", a.Nodes)
	}
	for i, c := range calls {
		if b, k := mustMake(t, a, c); k != places[i] || !slices.Equal(b.Nodes, a.Nodes) {
			t.Errorf("%s is at %d, and once more at %d", c.name, places[i], k)
		}
	}
}

// A side is any number of which there is an Atom; DoneMac's is 10 more.
func TestP6SidesForWhichThereIsAnAtom(t *testing.T) {
	for _, side := range []int{0, 1, 2, 3, 9, 10, 127, 999, 1001, 999989, 999990, 999999} {
		checkSecret(t, threeSecrets[:1], sideCall(0, side), []impl.Node{secretAtom(0), atomNode(side), kdfNode(0, 1)}, 2)
	}
	checkSecret(t, threeSecrets[:1], sideCall(0, 1000), []impl.Node{secretAtom(0), kdfNode(0, 0)}, 1)
	for _, side := range []int{-10, -9, -1, 0, 1, 2, 3, 989, 991, 999988, 999989} {
		want := []impl.Node{secretAtom(0), atomNode(10 + side), kdfNode(0, 1), hashNode(0), macNode(2, 3)}
		checkSecret(t, threeSecrets[:1], doneCall(0, side, 0), want, 4)
	}
	checkSecret(t, threeSecrets[:1], doneCall(0, 990, 0), []impl.Node{secretAtom(0), kdfNode(0, 0), hashNode(0), macNode(1, 2)}, 3)
}

// A sum with 10 that wraps round is no Atom's number either.
func TestP6SidesForWhichThereIsNone(t *testing.T) {
	for _, nodes := range [][]impl.Node{nil, threeSecrets, {atomNode(0), atomNode(10), atomNode(999999), kdfNode(0, 0), hashNode(0)}} {
		for _, side := range []int{-1, -2, -10, -11, 1000000, 1000001, 1 << 32, 1<<32 + 1, math.MaxInt, math.MaxInt - 9, math.MinInt, math.MinInt + 10} {
			checkRefused(t, nodes, sideCall(0, side))
		}
		for _, side := range []int{-11, -12, -1000000, 999990, 999991, 1000000, 1<<32 + 1, 1<<32 - 10, math.MaxInt, math.MaxInt - 8, math.MaxInt - 9, math.MaxInt - 10, math.MinInt, math.MinInt + 10} {
			checkRefused(t, nodes, doneCall(0, side, 0))
		}
	}
}

// The one of an epoch is the next one of the one ahead.
func TestP6EpochsOneBehindTheOther(t *testing.T) {
	for app := range threeSecrets {
		ahead, last := arenaOf(threeSecrets...), app
		for epoch := range 9 {
			checkSecret(t, threeSecrets, epochCall(app, epoch), ahead.Nodes, last)
			checkSecret(t, ahead.Nodes, epochCall(app, epoch), ahead.Nodes, last)
			for before := range epoch {
				b, k := mustMake(t, ahead, epochCall(app, before))
				checkSecret(t, b.Nodes, epochCall(k, epoch-before), ahead.Nodes, last)
			}
			ahead, last = mustMake(t, ahead, epochCall(last, 1))
		}
	}
}

// Epoch 0 is app itself, whatever it is, and nothing is put, even where there is no room.
func TestP6EpochNone(t *testing.T) {
	nodes := []impl.Node{secretAtom(0), atomNode(30), kdfNode(0, 1), pairNode(0, 2), pubNode(0)}
	for app := range nodes {
		checkSecret(t, nodes, epochCall(app, 0), nodes, app)
		checkSecret(t, nodes[:app+1], epochCall(app, 0), nodes[:app+1], app)
	}
	for _, end := range []int{2999, 3000, 3001} {
		full := atomsArena(end).Nodes
		checkSecret(t, full, epochCall(end-1, 0), full, end-1)
		checkSecret(t, full, epochCall(0, 0), full, 0)
		checkRefused(t, full, epochCall(end, 0), epochCall(-1, 0))
	}
}

func TestP6EpochsThatAreNone(t *testing.T) {
	eighth, last := plainEpoch(threeSecrets, 0, 8)
	ninth, _ := plainEpoch(eighth, last, 1)
	for _, has := range [][]impl.Node{nil, threeSecrets, eighth, ninth} {
		for _, epoch := range []int{-1, -2, -8, -9, 9, 10, 16, 256, 1 << 32, 1<<32 + 1, math.MaxInt, math.MinInt} {
			for app := -1; app <= len(has)+1; app++ {
				checkRefused(t, has, epochCall(app, epoch))
			}
		}
	}
}

// app must be a right node of the arena that is handed in: a place at which Atom 30 would come to stand is none.
func TestP6AppsThatAreNotRight(t *testing.T) {
	for epoch := range 9 {
		for _, app := range append(slices.Clone(outside), 3, 4, 5) {
			checkRefused(t, threeSecrets, epochCall(app, epoch))
		}
		for _, wrong := range wrongNodes {
			nodes := slices.Concat(threeSecrets, []impl.Node{wrong, atomNode(30)})
			checkRefused(t, nodes, epochCall(3, epoch))
			checkPlain(t, nodes, epochCall(0, epoch), epochCall(4, epoch))
		}
		forward := []impl.Node{kdfNode(0, 0), secretAtom(0), hashNode(2), pairNode(1, 4), atomNode(30)}
		checkRefused(t, forward, epochCall(0, epoch), epochCall(2, epoch), epochCall(3, epoch))
		checkPlain(t, forward, epochCall(1, epoch), epochCall(4, epoch))
	}
}

// Places below 0 and past the end, at each argument.
func TestP6PlacesThatAreNone(t *testing.T) {
	for _, k := range append(slices.Clone(outside), 6, 7, 10) {
		checkRefused(t, threeSecrets, handCall(k, 1, 2), handCall(0, k, 2), handCall(0, 1, k), handCall(k, k, k))
		for _, side := range []int{1, 2} {
			checkRefused(t, threeSecrets, sideCall(k, side), doneCall(k, side, 1), doneCall(0, side, k), doneCall(k, side, k))
		}
		checkRefused(t, threeSecrets, appCall(k, 1), appCall(0, k), appCall(k, k))
	}
}

// Whether a place is there is asked when what is made of it is put: up to what the call brought till then, and no further.
func TestP6PlacesOfWhatTheCallBrings(t *testing.T) {
	nodes := threeSecrets
	with := func(more ...impl.Node) []impl.Node { return slices.Concat(nodes, more) }
	checkSecret(t, nodes, handCall(0, 1, 3), with(pairNode(0, 1), hashNode(3), kdfNode(3, 4)), 5)
	checkRefused(t, nodes, handCall(0, 1, 4), handCall(3, 1, 2), handCall(0, 3, 2))
	checkSecret(t, nodes, sideCall(3, 1), with(atomNode(1), kdfNode(3, 3)), 4)
	checkRefused(t, nodes, sideCall(4, 1))
	checkSecret(t, nodes, doneCall(3, 2, 4), with(atomNode(12), kdfNode(3, 3), hashNode(4), macNode(4, 5)), 6)
	checkSecret(t, nodes, doneCall(0, 2, 3), with(atomNode(12), kdfNode(0, 3), hashNode(3), macNode(4, 5)), 6)
	checkRefused(t, nodes, doneCall(4, 2, 1), doneCall(0, 2, 5))
	checkSecret(t, nodes, appCall(3, 4), with(atomNode(20), kdfNode(3, 3), hashNode(4), kdfNode(4, 5)), 6)
	checkSecret(t, nodes, appCall(0, 3), with(atomNode(20), kdfNode(0, 3), hashNode(3), kdfNode(4, 5)), 6)
	checkRefused(t, nodes, appCall(4, 1), appCall(0, 5))

	// Where the Atom is there already, it brings no place.
	nodes = []impl.Node{secretAtom(0), atomNode(1), atomNode(11), atomNode(20)}
	checkRefused(t, nodes, sideCall(4, 1), doneCall(4, 1, 0), doneCall(0, 1, 5), appCall(4, 0), appCall(0, 5))
	checkSecret(t, nodes, doneCall(0, 1, 4), with(kdfNode(0, 2), hashNode(4), macNode(4, 5)), 6)
	checkSecret(t, nodes, appCall(0, 4), with(kdfNode(0, 3), hashNode(4), kdfNode(4, 5)), 6)
}

// fullBut has the three secrets, these, and Atoms, till there is room for as many more as room tells.
func fullBut(room int, these ...impl.Node) []impl.Node {
	nodes := slices.Concat(threeSecrets, these)
	for i := 0; len(nodes) < impl.MaxNodes-room; i++ {
		nodes = append(nodes, atomNode(5000+i))
	}
	return nodes
}

// checkRoom has each beginning of what a call brings there, and room for none of the rest up to more than all of it: room for some is room for none.
func checkRoom(t *testing.T, c secretCase) {
	t.Helper()
	for there := range len(c.brings) + 1 {
		missing := len(c.brings) - there
		for room := range len(c.brings) + 2 {
			nodes := fullBut(room, c.brings[:there]...)
			if room < missing {
				checkRefused(t, nodes, c.call)
				continue
			}
			want, k := c.call.plain(nodes)
			if len(want) != len(nodes)+missing || k < 0 {
				t.Fatalf("%s with room for %d brings %d, not %d", c.call.name, room, len(want)-len(nodes), missing)
			}
			checkSecret(t, nodes, c.call, want, k)
		}
		over := append(fullBut(0, c.brings[:there]...), atomNode(70000), hashNode(2))
		checkPlain(t, over, c.call)
	}
}

func TestP6Room(t *testing.T) {
	for _, c := range secretCases() {
		checkRoom(t, c)
	}
}

// The hash alone is there, or the Atom alone; what is behind them has room or not.
func TestP6RoomWithSomeThere(t *testing.T) {
	for _, first := range []impl.Node{atomNode(1), atomNode(2), atomNode(11), atomNode(12), atomNode(20), atomNode(30), hashNode(1), hashNode(2), pairNode(0, 1)} {
		for room := range 5 {
			nodes := fullBut(room, first)
			for _, c := range secretCases() {
				checkPlain(t, nodes, c.call)
			}
			for _, k := range []int{len(nodes), len(nodes) + 1, len(nodes) + 2} {
				checkPlain(t, nodes, handCall(0, 1, k), sideCall(k, 1), doneCall(k, 2, 1), doneCall(0, 2, k), appCall(k, 1), appCall(0, k), epochCall(k, 1))
			}
		}
	}
}

// allCalls are calls of every function at every place of an arena of that many nodes, and beside them.
func allCalls(end int) []secretCall {
	var calls []secretCall
	for x := -1; x <= end+2; x++ {
		for _, side := range []int{1, 2, -1} {
			calls = append(calls, sideCall(x, side))
		}
		for epoch := -1; epoch <= 9; epoch++ {
			calls = append(calls, epochCall(x, epoch))
		}
		for y := -1; y <= end+2; y++ {
			calls = append(calls, appCall(x, y), doneCall(x, 1, y), doneCall(x, 2, y), doneCall(x, -9, y), doneCall(x, -11, y),
				handCall(x, y, x), handCall(x, x, y), handCall(x, y, 0), handCall(0, x, y))
		}
	}
	return calls
}

// A node that is not right, wherever it stands: it is asked after in EpochSecret, as its app, and nowhere else.
func TestP6WrongNodes(t *testing.T) {
	right := []impl.Node{secretAtom(0), atomNode(1), kdfNode(0, 1), hashNode(0)}
	for _, wrong := range wrongNodes {
		for at := range right {
			nodes := slices.Clone(right)
			nodes[at] = wrong
			checkPlain(t, nodes, allCalls(len(nodes))...)
		}
		nodes := []impl.Node{secretAtom(0), wrong}
		checkSecret(t, nodes, sideCall(1, 1), slices.Concat(nodes, []impl.Node{atomNode(1), kdfNode(1, 2)}), 3)
		checkSecret(t, nodes, handCall(0, 1, 1), slices.Concat(nodes, []impl.Node{pairNode(0, 1), hashNode(1), kdfNode(2, 3)}), 4)
		checkSecret(t, nodes, epochCall(0, 2), slices.Concat(nodes, []impl.Node{atomNode(30), kdfNode(0, 2), kdfNode(3, 2)}), 4)
		checkRefused(t, nodes, epochCall(1, 0), epochCall(1, 2))
	}
}

// Of nodes that are there twice the first one is found.
func TestP6NodesTwice(t *testing.T) {
	nodes := []impl.Node{atomNode(1), atomNode(1), atomNode(11), atomNode(20), atomNode(30), atomNode(11), atomNode(20), atomNode(30), hashNode(1), hashNode(1), pairNode(1, 0), pairNode(1, 0)}
	with := func(more ...impl.Node) []impl.Node { return slices.Concat(nodes, more) }
	checkSecret(t, nodes, sideCall(1, 1), with(kdfNode(1, 0)), 12)
	checkSecret(t, nodes, doneCall(1, 1, 1), with(kdfNode(1, 2), macNode(12, 8)), 13)
	checkSecret(t, nodes, appCall(1, 1), with(kdfNode(1, 3), kdfNode(12, 8)), 13)
	checkSecret(t, nodes, handCall(1, 0, 1), with(kdfNode(10, 8)), 12)
	checkSecret(t, nodes, epochCall(1, 0), nodes, 1)
	checkSecret(t, nodes, epochCall(7, 2), with(kdfNode(7, 4), kdfNode(12, 4)), 13)
	twice := with(kdfNode(1, 0), kdfNode(1, 0))
	checkSecret(t, twice, sideCall(1, 1), twice, 12)
	checkPlain(t, nodes, allCalls(len(nodes))...)
	checkPlain(t, slices.Concat(threeSecrets, threeSecrets), allCalls(6)...)
}

// drawSecretNode is often one of those that the chapter's calls look for.
func drawSecretNode(draw *rand.Rand, k int) impl.Node {
	if draw.Intn(2) == 0 {
		return drawNode(draw, k)
	}
	nums := []int{1, 2, 11, 12, 20, 30, 1000}
	kinds := []int{impl.TmPair, impl.TmKdf, impl.TmKdf, impl.TmMac}
	switch draw.Intn(3) {
	case 0:
		return atomNode(nums[draw.Intn(len(nums))])
	case 1:
		return hashNode(draw.Intn(k + 1))
	}
	return kindNode(kinds[draw.Intn(len(kinds))], draw.Intn(k+1), draw.Intn(k+1))
}

// Drawn arenas, many of them not right: every function answers as the plain way does.
func TestP6DrawnArenas(t *testing.T) {
	draw := rand.New(rand.NewSource(8))
	for range 300 {
		nodes := drawNodes(draw, 8, drawSecretNode)
		checkPlain(t, nodes, allCalls(len(nodes))...)
	}
}

// A right arena grows by what is drawn, and stays right; the secrets of both sides are unlike in it.
func TestP6DrawnSecrets(t *testing.T) {
	draw := rand.New(rand.NewSource(9))
	for range 30 {
		a := arenaOf(threeSecrets...)
		for range 40 {
			x, y, z := draw.Intn(len(a.Nodes)), draw.Intn(len(a.Nodes)), draw.Intn(len(a.Nodes))
			var client, server int
			switch draw.Intn(4) {
			case 0:
				a, client = mustMake(t, a, sideCall(x, impl.SideClient))
				a, server = mustMake(t, a, sideCall(x, impl.SideServer))
			case 1:
				a, client = mustMake(t, a, doneCall(x, impl.SideClient, y))
				a, server = mustMake(t, a, doneCall(x, impl.SideServer, y))
			case 2:
				a, client = mustMake(t, a, appCall(x, y))
				a, server = mustMake(t, a, epochCall(client, 1+draw.Intn(8)))
			case 3:
				a, client = mustMake(t, a, handCall(x, y, z))
				a, server = mustMake(t, a, appCall(client, z))
			}
			if client == server || !impl.ArenaOk(a) {
				t.Fatalf("%d and %d are the same, or the arena is not right: %v", client, server, a.Nodes)
			}
		}
	}
}

// checkNewMemory changes every answer all over; the argument and the spare room behind it stay as they are, and so does the next answer.
func checkNewMemory(t *testing.T, first []impl.Node, calls []secretCall) {
	t.Helper()
	spare := impl.Node{Kind: 55, Num: 55, A: 55, B: 55}
	spares := slices.Repeat([]impl.Node{spare}, 12)
	room := slices.Concat(first, spares)
	a := impl.Arena{Nodes: room[:len(first)]}
	for range 2 {
		for _, c := range calls {
			b, _ := c.call(a)
			nodes := b.Nodes[:cap(b.Nodes)]
			for i := range nodes {
				nodes[i] = impl.Node{Kind: -9}
			}
			if !slices.Equal(room, slices.Concat(first, spares)) {
				t.Fatalf("by %s the arena, or the room behind it, became %v", c.name, room)
			}
		}
	}
	checkPlain(t, a.Nodes, calls...)
}

// checkOnlyRead asks each place of an arena, and those beside it: the arena and the spare room behind it stay as they are.
func checkOnlyRead(t *testing.T, nodes []impl.Node, ask func(a impl.Arena, k int)) {
	t.Helper()
	spares := slices.Repeat([]impl.Node{{Kind: 55, Num: 55}}, 12)
	room := slices.Concat(nodes, spares)
	for k := -1; k <= len(nodes); k++ {
		ask(impl.Arena{Nodes: room[:len(nodes)]}, k)
		if !slices.Equal(room, slices.Concat(nodes, spares)) {
			t.Fatalf("the arena, or the room behind it, became %v", room)
		}
	}
}

func TestP6AnswersAreNewMemory(t *testing.T) {
	first := slices.Concat(threeSecrets, []impl.Node{atomNode(1), kdfNode(0, 3), hashNode(1)})
	checkNewMemory(t, first, allCalls(len(first)))
}
