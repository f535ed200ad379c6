package tests

import (
	"fmt"
	"math"
	"math/rand"
	"slices"
	"testing"

	"loop.example/g00466/impl"
)

// madeKinds are the kinds that Make makes.
var madeKinds = []int{impl.TmPair, impl.TmHash, impl.TmKdf, impl.TmSeal, impl.TmPub, impl.TmSign, impl.TmMac}

// wrongNodes are right at no place.
var wrongNodes = []impl.Node{
	{}, {Kind: 10}, {Kind: -1, A: 1}, atomNode(-1), atomNode(1000000), {Kind: impl.TmAtom, A: 1}, hashNode(-1), hashNode(7777),
	{Kind: impl.TmPub, B: 1}, pairNode(0, 7777), pairNode(-1, 0), {Kind: impl.TmSeal, Num: 1}, {Kind: impl.TmSign, B: 7777},
}

func kindNode(kind, a, b int) impl.Node { return impl.Node{Kind: kind, A: a, B: b} }

func pubNode(a int) impl.Node { return kindNode(impl.TmPub, a, 0) }

func sealNode(a, b int) impl.Node { return kindNode(impl.TmSeal, a, b) }

func signNode(a, b int) impl.Node { return kindNode(impl.TmSign, a, b) }

func dhNode(a, b int) impl.Node { return kindNode(impl.TmDh, a, b) }

func with(a impl.Arena, more ...impl.Node) []impl.Node { return slices.Concat(a.Nodes, more) }

func plainAtom(nodes []impl.Node, n int) ([]impl.Node, int) { return plainPut(nodes, atomNode(n)) }

func plainMake(nodes []impl.Node, kind, x, y int) ([]impl.Node, int) {
	switch {
	case slices.Contains(oneKinds, kind):
		return plainPut(nodes, kindNode(kind, x, 0))
	case slices.Contains(madeKinds, kind):
		return plainPut(nodes, kindNode(kind, x, y))
	}
	return nodes, -1
}

// plainList makes the List of the others ahead of its own pair, and leaves nothing when one of both can't be.
func plainList(nodes []impl.Node, list []int) ([]impl.Node, int) {
	if len(list) == 0 {
		return plainAtom(nodes, 0)
	}
	others, k := plainList(nodes, list[1:])
	if k < 0 {
		return nodes, -1
	}
	whole, k := plainPut(others, pairNode(list[0], k))
	if k < 0 {
		return nodes, -1
	}
	return whole, k
}

func plainParts(nodes []impl.Node, k, n int) ([]int, bool) {
	if n < 0 || !plainNodeOk(nodes, k) {
		return nil, false
	}
	if n == 0 {
		return nil, nodes[k] == atomNode(0)
	}
	if nodes[k].Kind != impl.TmPair {
		return nil, false
	}
	others, ok := plainParts(nodes, nodes[k].B, n-1)
	if !ok {
		return nil, false
	}
	return append([]int{nodes[k].A}, others...), true
}

// plainText is empty where a term has no text.
func plainText(nodes []impl.Node, k int) string {
	if x := treeAt(nodes, k); x != nil && treeSize(x) <= 2000 {
		return treeText(x)
	}
	return ""
}

func plainDh(nodes []impl.Node, secret, pub int) ([]impl.Node, int) {
	if !plainNodeOk(nodes, pub) || nodes[pub].Kind != impl.TmPub || !plainNodeOk(nodes, secret) {
		return nodes, -1
	}
	x, y := min(secret, nodes[pub].A), max(secret, nodes[pub].A)
	if plainText(nodes, x) <= plainText(nodes, y) {
		return plainPut(nodes, dhNode(x, y))
	}
	return plainPut(nodes, dhNode(y, x))
}

func plainOpen(nodes []impl.Node, key, k int) (int, bool) {
	if plainNodeOk(nodes, k) && nodes[k].Kind == impl.TmSeal && nodes[k].A == key {
		return nodes[k].B, true
	}
	return -1, false
}

func plainSigned(nodes []impl.Node, pub, k int) (int, bool) {
	if plainNodeOk(nodes, k) && nodes[k].Kind == impl.TmSign && plainNodeOk(nodes, pub) && nodes[pub] == pubNode(nodes[k].A) {
		return nodes[k].B, true
	}
	return -1, false
}

func plainNum(nodes []impl.Node, k int) (int, bool) {
	if plainNodeOk(nodes, k) && nodes[k].Kind == impl.TmAtom {
		return nodes[k].Num, true
	}
	return 0, false
}

type madeArena struct {
	nodes []impl.Node
	at    int
}

func made(b impl.Arena, k int) madeArena { return madeArena{b.Nodes, k} }

func (m madeArena) is(want []impl.Node, wantK int) bool {
	return slices.Equal(m.nodes, want) && m.at == wantK
}

func (m madeArena) String() string {
	return fmt.Sprintf("%s of %d nodes, %d", brief(m.nodes), len(m.nodes), m.at)
}

func checkAtom(t *testing.T, a impl.Arena, n int, want []impl.Node, wantK int) {
	t.Helper()
	if got := made(impl.Atom(a, n)); !got.is(want, wantK) {
		t.Fatalf("Atom(%s, %d) = %v; want %v", brief(a), n, got, madeArena{want, wantK})
	}
}

func checkMake(t *testing.T, a impl.Arena, kind, x, y int, want []impl.Node, wantK int) {
	t.Helper()
	if got := made(impl.Make(a, kind, x, y)); !got.is(want, wantK) {
		t.Fatalf("Make(%s, %d, %d, %d) = %v; want %v", brief(a), kind, x, y, got, madeArena{want, wantK})
	}
}

func checkList(t *testing.T, a impl.Arena, list []int, want []impl.Node, wantK int) {
	t.Helper()
	if got := made(impl.List(a, list)); !got.is(want, wantK) {
		t.Fatalf("List(%s, %s) = %v; want %v", brief(a), brief(list), got, madeArena{want, wantK})
	}
}

func checkDh(t *testing.T, a impl.Arena, secret, pub int, want []impl.Node, wantK int) {
	t.Helper()
	if got := made(impl.DhOf(a, secret, pub)); !got.is(want, wantK) {
		t.Fatalf("DhOf(%s, %d, %d) = %v; want %v", brief(a), secret, pub, got, madeArena{want, wantK})
	}
}

func checkTermParts(t *testing.T, a impl.Arena, k, n int, want []int, wantOk bool) {
	t.Helper()
	if got, ok := impl.Parts(a, k, n); !slices.Equal(got, want) || ok != wantOk {
		t.Fatalf("Parts(%s of %d nodes, %d, %d) = %s, %v; want %s, %v", brief(a), len(a.Nodes), k, n, brief(got), ok, brief(want), wantOk)
	}
}

func checkOpen(t *testing.T, a impl.Arena, key, k, want int, wantOk bool) {
	t.Helper()
	if got, ok := impl.Open(a, key, k); got != want || ok != wantOk {
		t.Fatalf("Open(%s, %d, %d) = %d, %v; want %d, %v", brief(a), key, k, got, ok, want, wantOk)
	}
}

func checkSigned(t *testing.T, a impl.Arena, pub, k, want int, wantOk bool) {
	t.Helper()
	if got, ok := impl.Signed(a, pub, k); got != want || ok != wantOk {
		t.Fatalf("Signed(%s, %d, %d) = %d, %v; want %d, %v", brief(a), pub, k, got, ok, want, wantOk)
	}
}

func checkNum(t *testing.T, a impl.Arena, k, want int, wantOk bool) {
	t.Helper()
	if got, ok := impl.NumOf(a, k); got != want || ok != wantOk {
		t.Fatalf("NumOf(%s, %d) = %d, %v; want %d, %v", brief(a), k, got, ok, want, wantOk)
	}
}

func TestP4AtomAndItsNumber(t *testing.T) {
	var a impl.Arena
	for i, n := range []int{7, 0, 127, 128, 999999, 1000} {
		want := with(a, atomNode(n))
		checkAtom(t, a, n, want, i)
		a = arenaOf(want...)
		checkAtom(t, a, n, want, i)
		checkAtom(t, a, 7, want, 0)
		checkNum(t, a, i, n, true)
	}
	for _, n := range []int{-1, 1000000, -999999, math.MaxInt, math.MinInt} {
		checkAtom(t, a, n, a.Nodes, -1)
		checkAtom(t, impl.Arena{}, n, nil, -1)
	}
}

func TestP4NumOfOthers(t *testing.T) {
	a := arenaOf(atomNode(7))
	for _, kind := range twoKinds {
		a.Nodes = append(a.Nodes, kindNode(kind, 0, 0))
	}
	a.Nodes = append(a.Nodes, hashNode(0), pubNode(0))
	for k := 1; k < len(a.Nodes); k++ {
		checkNum(t, a, k, 0, false)
	}
	for _, k := range []int{-1, len(a.Nodes), math.MaxInt, math.MinInt} {
		checkNum(t, a, k, 0, false)
	}
	checkNum(t, impl.Arena{}, 0, 0, false)
}

func TestP4MakeHasWhatItWasMadeOf(t *testing.T) {
	a := arenaOf(atomNode(7), atomNode(8), hashNode(1))
	for _, kind := range madeKinds {
		for _, x := range []int{0, 1, 2} {
			for _, y := range []int{0, 1, 2} {
				n := kindNode(kind, x, y)
				if kind == impl.TmHash || kind == impl.TmPub {
					n.B = 0
				}
				want, at := with(a, n), 3
				if n == a.Nodes[2] {
					want, at = a.Nodes, 2
				}
				checkMake(t, a, kind, x, y, want, at)
				checkMake(t, arenaOf(want...), kind, x, y, want, at)
			}
		}
	}
}

func TestP4MakeOfOneWithAnyY(t *testing.T) {
	a := arenaOf(atomNode(7), atomNode(8))
	for _, kind := range oneKinds {
		for _, y := range []int{0, 1, 2, 3, -1, 3000, math.MaxInt, math.MinInt} {
			want := with(a, kindNode(kind, 1, 0))
			checkMake(t, a, kind, 1, y, want, 2)
			checkMake(t, arenaOf(want...), kind, 1, y, want, 2)
		}
	}
}

func TestP4MakeOfNoneOfItsKinds(t *testing.T) {
	a := arenaOf(atomNode(7), atomNode(0), dhNode(0, 1), dhNode(0, 0), pubNode(0))
	kinds := []int{impl.TmAtom, impl.TmDh, 0, 10, -1, 11, -8, 257, 1 << 32, 1<<32 + 2, math.MaxInt, math.MinInt}
	for _, kind := range kinds {
		for _, x := range []int{0, 1, 4, 5, -1} {
			for _, y := range []int{0, 1, 4, 5, -1} {
				checkMake(t, a, kind, x, y, a.Nodes, -1)
			}
		}
		checkMake(t, impl.Arena{}, kind, 0, 0, nil, -1)
	}
}

func TestP4MakeOfKidsThatAreNotThere(t *testing.T) {
	a := arenaOf(atomNode(7), atomNode(8))
	for _, kind := range madeKinds {
		for _, x := range []int{-1, 2, 3, 2999, 3000, math.MaxInt, math.MinInt} {
			checkMake(t, a, kind, x, 0, a.Nodes, -1)
			checkMake(t, a, kind, x, x, a.Nodes, -1)
			if partsOfKind(kind) == 2 {
				checkMake(t, a, kind, 0, x, a.Nodes, -1)
			}
		}
		checkMake(t, impl.Arena{}, kind, 0, 0, nil, -1)
	}
}

func TestP4ListOfNone(t *testing.T) {
	checkList(t, impl.Arena{}, nil, []impl.Node{atomNode(0)}, 0)
	checkList(t, impl.Arena{}, []int{}, []impl.Node{atomNode(0)}, 0)
	a := arenaOf(atomNode(7), atomNode(0), atomNode(8))
	checkList(t, a, nil, a.Nodes, 1)
	checkTermParts(t, a, 1, 0, nil, true)
	for _, n := range []int{1, 2, -1, math.MaxInt, math.MinInt} {
		checkTermParts(t, a, 1, n, nil, false)
	}
	checkTermParts(t, a, 0, 0, nil, false)
}

// The end is made first, and then pair by pair to the first one.
func TestP4ListAndItsParts(t *testing.T) {
	a := arenaOf(atomNode(7), atomNode(8), hashNode(0))
	for _, c := range []struct {
		list   []int
		brings []impl.Node
	}{
		{[]int{0}, []impl.Node{atomNode(0), pairNode(0, 3)}},
		{[]int{2}, []impl.Node{atomNode(0), pairNode(2, 3)}},
		{[]int{0, 1}, []impl.Node{atomNode(0), pairNode(1, 3), pairNode(0, 4)}},
		{[]int{1, 0}, []impl.Node{atomNode(0), pairNode(0, 3), pairNode(1, 4)}},
		{[]int{1, 1, 1}, []impl.Node{atomNode(0), pairNode(1, 3), pairNode(1, 4), pairNode(1, 5)}},
		{[]int{2, 1, 0, 2}, []impl.Node{atomNode(0), pairNode(2, 3), pairNode(0, 4), pairNode(1, 5), pairNode(2, 6)}},
	} {
		want := with(a, c.brings...)
		last, n := len(want)-1, len(c.list)
		checkList(t, a, c.list, want, last)
		b := arenaOf(want...)
		checkList(t, b, c.list, want, last)
		checkTermParts(t, b, last, n, c.list, true)
		for _, wrong := range []int{n + 1, n - 1, n + 2, 0, -1, -n, len(b.Nodes), math.MaxInt, math.MinInt} {
			checkTermParts(t, b, last, wrong, nil, false)
		}
	}
}

func TestP4ListPutsWhatIsMissing(t *testing.T) {
	for _, c := range []struct {
		has    []impl.Node
		list   []int
		brings []impl.Node
		at     int
	}{
		{[]impl.Node{atomNode(0)}, []int{0}, []impl.Node{pairNode(0, 0)}, 1},
		{[]impl.Node{atomNode(0), pairNode(0, 0)}, []int{0}, nil, 1},
		{[]impl.Node{atomNode(0), pairNode(0, 0)}, []int{0, 0}, []impl.Node{pairNode(0, 1)}, 2},
		{[]impl.Node{atomNode(0), pairNode(0, 0)}, []int{1, 0}, []impl.Node{pairNode(1, 1)}, 2},
		{[]impl.Node{atomNode(0), pairNode(0, 0)}, []int{1}, []impl.Node{pairNode(1, 0)}, 2},
		{[]impl.Node{atomNode(9), atomNode(0), pairNode(0, 1)}, []int{2, 0}, []impl.Node{pairNode(2, 2)}, 3},
		{[]impl.Node{atomNode(9), atomNode(0), pairNode(0, 1)}, []int{0, 2}, []impl.Node{pairNode(2, 1), pairNode(0, 3)}, 4},
	} {
		a := arenaOf(c.has...)
		want := with(a, c.brings...)
		checkList(t, a, c.list, want, c.at)
		checkTermParts(t, arenaOf(want...), c.at, len(c.list), c.list, true)
	}
}

// A list may stand in a list, as one of its terms, and as its end.
func TestP4PartsOfListsInLists(t *testing.T) {
	a := arenaOf(atomNode(5), atomNode(0), pairNode(0, 1), pairNode(2, 1), pairNode(2, 2), pairNode(0, 0), pairNode(0, 5))
	checkTermParts(t, a, 2, 1, []int{0}, true)
	checkTermParts(t, a, 3, 1, []int{2}, true)
	checkTermParts(t, a, 3, 2, nil, false)
	checkTermParts(t, a, 4, 2, []int{2, 0}, true)
	checkTermParts(t, a, 4, 1, nil, false)
	for _, k := range []int{0, 5, 6, -1, 7, math.MaxInt, math.MinInt} {
		for n := -1; n <= 3; n++ {
			checkTermParts(t, a, k, n, nil, false)
		}
	}
	checkTermParts(t, impl.Arena{}, 0, 0, nil, false)
	for _, kind := range twoKinds {
		b := arenaOf(atomNode(5), atomNode(0), kindNode(kind, 0, 1))
		want, wantOk := []int(nil), kind == impl.TmPair
		if wantOk {
			want = []int{0}
		}
		checkTermParts(t, b, 2, 1, want, wantOk)
	}
}

func TestP4ListOfKidsThatAreNotThere(t *testing.T) {
	a := arenaOf(atomNode(7), atomNode(8))
	for _, x := range []int{-1, -2, 7, 8, 2999, 3000, math.MaxInt, math.MinInt} {
		for _, list := range [][]int{{x}, {x, 0}, {0, x}, {0, x, 1}, {x, x}, {0, 1, x}, {x, 0, 1}, {1, 0, 1, 0, x}, {x, 0, 1, 0, 1}} {
			checkList(t, a, list, a.Nodes, -1)
			checkList(t, impl.Arena{}, list, nil, -1)
		}
	}
}

// What the List of the others brought is there when the pair is put; what comes with the pair, or behind it, is not.
func TestP4ListOfWhatItBringsItself(t *testing.T) {
	two := []impl.Node{atomNode(5), atomNode(7)}
	end := []impl.Node{atomNode(5), atomNode(0)}
	twin := []impl.Node{atomNode(0), pairNode(0, 0)}
	wrong := []impl.Node{pairNode(1, 1)}
	for _, c := range []struct {
		has    []impl.Node
		list   []int
		brings []impl.Node
		at     int
	}{
		{nil, []int{0}, []impl.Node{atomNode(0), pairNode(0, 0)}, 1},
		{nil, []int{0, 0}, []impl.Node{atomNode(0), pairNode(0, 0), pairNode(0, 1)}, 2},
		{nil, []int{1, 0}, []impl.Node{atomNode(0), pairNode(0, 0), pairNode(1, 1)}, 2},
		{nil, []int{2, 1, 0}, []impl.Node{atomNode(0), pairNode(0, 0), pairNode(1, 1), pairNode(2, 2)}, 3},
		{nil, []int{1}, nil, -1},
		{nil, []int{0, 1}, nil, -1},
		{nil, []int{2, 0}, nil, -1},
		{two, []int{2}, []impl.Node{atomNode(0), pairNode(2, 2)}, 3},
		{two, []int{3, 0}, []impl.Node{atomNode(0), pairNode(0, 2), pairNode(3, 3)}, 4},
		{two, []int{2, 3, 1}, []impl.Node{atomNode(0), pairNode(1, 2), pairNode(3, 3), pairNode(2, 4)}, 5},
		{two, []int{3}, nil, -1},
		{two, []int{0, 3}, nil, -1},
		{two, []int{4, 0}, nil, -1},
		{end, []int{2, 0}, []impl.Node{pairNode(0, 1), pairNode(2, 2)}, 3},
		{end, []int{2}, nil, -1},
		{end, []int{0, 2}, nil, -1},
		{twin, []int{2, 0}, nil, -1},
		{twin, []int{2, 0, 0}, []impl.Node{pairNode(0, 1), pairNode(2, 2)}, 3},
		{wrong, []int{1}, []impl.Node{atomNode(0)}, 0},
		{wrong, []int{2, 1}, nil, -1},
	} {
		a := arenaOf(c.has...)
		checkList(t, a, c.list, with(a, c.brings...), c.at)
		checkList(t, arenaOf(with(a, c.brings...)...), c.list, with(a, c.brings...), c.at)
	}
}

// The last place that is there when a pair is put is that of the List of the others; its own, the next one, is not.
func TestP4ListPlacesUpToTheListOfTheOthers(t *testing.T) {
	for _, a := range []impl.Arena{{}, arenaOf(atomNode(7), atomNode(8)), arenaOf(impl.Node{}, hashNode(9))} {
		end := len(a.Nodes)
		for n := 1; n <= 5; n++ {
			for i := range n {
				list := make([]int, n)
				others := end + n - 1 - i
				for list[i] = 0; list[i] <= others; list[i]++ {
					want := with(a, atomNode(0))
					for j := n - 1; j >= 0; j-- {
						want = append(want, pairNode(list[j], len(want)-1))
					}
					checkList(t, a, list, want, end+n)
				}
				checkList(t, a, list, a.Nodes, -1)
			}
		}
	}
}

// A list that is made of its own pairs fills the room up to the last node, and not one further.
func TestP4ListOfItsOwnPairsAndRoom(t *testing.T) {
	for _, n := range []int{impl.MaxNodes - 2, impl.MaxNodes - 1, impl.MaxNodes} {
		list := make([]int, n)
		want := []impl.Node{atomNode(0)}
		for i := n - 1; i >= 0; i-- {
			list[i] = len(want) - 1
			want = append(want, pairNode(list[i], list[i]))
		}
		if n >= impl.MaxNodes {
			checkList(t, impl.Arena{}, list, nil, -1)
			continue
		}
		checkList(t, impl.Arena{}, list, want, n)
		checkTermParts(t, arenaOf(want...), n, n, list, true)
	}
}

func TestP4LongLists(t *testing.T) {
	a := atomsArena(2)
	for _, n := range []int{100, impl.MaxNodes - 3, impl.MaxNodes - 2} {
		list := make([]int, n)
		for i := range list {
			list[i] = i % 2
		}
		b, k := impl.List(a, list)
		if k != n+1 || len(b.Nodes) != n+2 || !impl.ArenaOk(b) {
			t.Fatalf("List of %d: %d nodes, %d", n, len(b.Nodes), k)
		}
		checkTermParts(t, b, k, n, list, true)
		checkTermParts(t, b, k, n+1, nil, false)
		checkTermParts(t, b, k, n-1, nil, false)
	}
	for _, n := range []int{impl.MaxNodes - 1, impl.MaxNodes, 1000000} {
		checkList(t, a, make([]int, n), a.Nodes, -1)
	}
}

func TestP4DhOfTwoSecretsEitherWay(t *testing.T) {
	for _, c := range []struct {
		name          string
		first, second impl.Node
		dh            impl.Node
	}{
		{"5000 and 6000", atomNode(5000), atomNode(6000), dhNode(0, 1)},
		{"6000 and 5000", atomNode(6000), atomNode(5000), dhNode(1, 0)},
		{"255 and 256, whose bytes are less", atomNode(255), atomNode(256), dhNode(1, 0)},
		{"128 and 127, whose bytes are less", atomNode(128), atomNode(127), dhNode(1, 0)},
		{"999999 and a hash", atomNode(999999), hashNode(0), dhNode(0, 1)},
		{"6 and 5", atomNode(6), atomNode(5), dhNode(1, 0)},
	} {
		a := arenaOf(c.first, c.second, pubNode(0), pubNode(1))
		want := with(a, c.dh)
		checkDh(t, a, 0, 3, want, 4)
		checkDh(t, a, 1, 2, want, 4)
		b := arenaOf(want...)
		checkDh(t, b, 0, 3, want, 4)
		checkDh(t, b, 1, 2, want, 4)
	}
}

func TestP4DhOfOneSecretWithItself(t *testing.T) {
	a := arenaOf(atomNode(9), atomNode(7), pubNode(1), hashNode(0), pubNode(3))
	checkDh(t, a, 1, 2, with(a, dhNode(1, 1)), 5)
	checkDh(t, a, 3, 4, with(a, dhNode(3, 3)), 5)
	b := arenaOf(with(a, dhNode(1, 1))...)
	checkDh(t, b, 1, 2, b.Nodes, 5)
	// A pub may be a secret, and its own one.
	c := arenaOf(atomNode(7), pubNode(0), pubNode(1))
	checkDh(t, c, 1, 1, with(c, dhNode(0, 1)), 3)
	checkDh(t, c, 1, 2, with(c, dhNode(1, 1)), 3)
	checkDh(t, c, 2, 1, with(c, dhNode(0, 2)), 3)
}

// Only the empty text, which a great term has, begins another one's.
func TestP4DhOfGreatTerms(t *testing.T) {
	for _, size := range []int{1999, 2000, 2001, 2002, 100000} {
		great := arenaOfSize(size)
		k := len(great.Nodes) - 1
		a := arenaOf(with(great, atomNode(9), pubNode(k), pubNode(k+1))...)
		dh := dhNode(k+1, k)
		if size > 2000 {
			dh = dhNode(k, k+1)
		}
		want := with(a, dh)
		checkDh(t, a, k, k+3, want, k+4)
		checkDh(t, a, k+1, k+2, want, k+4)
		b := arenaOf(slices.Insert(slices.Clone(great.Nodes), 1, atomNode(0))...)
		for i := 2; i < len(b.Nodes); i++ {
			moveOn(&b.Nodes[i], 1)
		}
		k = len(b.Nodes) - 1
		b.Nodes = append(b.Nodes, pubNode(k), pubNode(1))
		dh = dhNode(1, k)
		if size > 2000 {
			dh = dhNode(k, 1)
		}
		want = with(b, dh)
		checkDh(t, b, k, k+2, want, k+3)
		checkDh(t, b, 1, k+1, want, k+3)
	}
}

// moveOn lets a node have terms one further, where these are at the place or behind it.
func moveOn(n *impl.Node, from int) {
	if n.A >= from {
		n.A++
	}
	if n.B >= from {
		n.B++
	}
}

// Of two whose texts are the same the one whose place is less comes first.
func TestP4DhOfTheSameText(t *testing.T) {
	great := arenaOfSize(2001)
	k := len(great.Nodes) - 1
	a := arenaOf(with(great, hashNode(k), pubNode(k), pubNode(k+1))...)
	want := with(a, dhNode(k, k+1))
	checkDh(t, a, k, k+3, want, k+4)
	checkDh(t, a, k+1, k+2, want, k+4)
	twice := arenaOf(atomNode(7), atomNode(7), pubNode(0), pubNode(1))
	want = with(twice, dhNode(0, 1))
	checkDh(t, twice, 0, 3, want, 4)
	checkDh(t, twice, 1, 2, want, 4)
	wrong := arenaOf(impl.Node{}, atomNode(7), atomNode(5), pubNode(1), pubNode(2))
	want = with(wrong, dhNode(1, 2))
	checkDh(t, wrong, 1, 4, want, 5)
	checkDh(t, wrong, 2, 3, want, 5)
}

func TestP4DhOfWhatIsNotThere(t *testing.T) {
	a := arenaOf(atomNode(7), atomNode(8), pubNode(0), hashNode(0), pairNode(0, 1), sealNode(0, 1), dhNode(0, 1), signNode(0, 1))
	for _, k := range []int{-1, len(a.Nodes), len(a.Nodes) + 1, 3000, math.MaxInt, math.MinInt} {
		checkDh(t, a, k, 2, a.Nodes, -1)
		checkDh(t, a, 1, k, a.Nodes, -1)
		checkDh(t, a, k, k, a.Nodes, -1)
	}
	for k := range a.Nodes {
		if k != 2 {
			checkDh(t, a, 1, k, a.Nodes, -1)
		}
	}
	checkDh(t, impl.Arena{}, 0, 0, nil, -1)
}

func TestP4SealOpensWithItsKeyAlone(t *testing.T) {
	a := arenaOf(atomNode(5), atomNode(6), atomNode(7), pubNode(0), sealNode(0, 1), sealNode(3, 4), sealNode(0, 0))
	opens := map[[2]int]int{{0, 4}: 1, {3, 5}: 4, {0, 6}: 0}
	for k := -1; k <= len(a.Nodes); k++ {
		for key := -1; key <= len(a.Nodes); key++ {
			if in, ok := opens[[2]int{key, k}]; ok {
				checkOpen(t, a, key, k, in, true)
			} else {
				checkOpen(t, a, key, k, -1, false)
			}
		}
	}
	for _, x := range []int{math.MaxInt, math.MinInt, 3000} {
		checkOpen(t, a, x, 4, -1, false)
		checkOpen(t, a, 0, x, -1, false)
		checkOpen(t, a, x, x, -1, false)
	}
	checkOpen(t, impl.Arena{}, 0, 0, -1, false)
}

func TestP4OpenOfOtherKinds(t *testing.T) {
	for _, kind := range twoKinds {
		a := arenaOf(atomNode(5), atomNode(6), kindNode(kind, 0, 1))
		want, wantOk := plainOpen(a.Nodes, 0, 2)
		if wantOk != (kind == impl.TmSeal) {
			t.Fatalf("the plain way opens kind %d", kind)
		}
		checkOpen(t, a, 0, 2, want, wantOk)
	}
	a := arenaOf(atomNode(5), hashNode(0), pubNode(0))
	for k := range a.Nodes {
		checkOpen(t, a, 0, k, -1, false)
	}
}

func TestP4SignIsToldByItsPub(t *testing.T) {
	a := arenaOf(atomNode(5), atomNode(6), pubNode(0), pubNode(1), hashNode(0), signNode(0, 1), signNode(1, 5), signNode(2, 0), sealNode(0, 1), pubNode(2))
	tells := map[[2]int]int{{2, 5}: 1, {3, 6}: 5, {9, 7}: 0}
	for k := -1; k <= len(a.Nodes); k++ {
		for pub := -1; pub <= len(a.Nodes); pub++ {
			if in, ok := tells[[2]int{pub, k}]; ok {
				checkSigned(t, a, pub, k, in, true)
			} else {
				checkSigned(t, a, pub, k, -1, false)
			}
		}
	}
	for _, x := range []int{math.MaxInt, math.MinInt, 3000} {
		checkSigned(t, a, x, 5, -1, false)
		checkSigned(t, a, 2, x, -1, false)
		checkSigned(t, a, x, x, -1, false)
	}
	checkSigned(t, impl.Arena{}, 0, 0, -1, false)
}

// Every kind stands in for the sign, and for the pub, with the same A.
func TestP4SignedOfOtherKinds(t *testing.T) {
	for kind := 0; kind <= 10; kind++ {
		for _, pub := range []int{0, 1, 2, 3, 4, 5, 6, 7, 8, 9, 10} {
			n, p := kindNode(kind, 0, 1), kindNode(pub, 0, 0)
			if partsOfKind(kind) != 2 {
				n.B = 0
			}
			a := arenaOf(atomNode(5), atomNode(6), p, n)
			want, wantOk := -1, false
			if kind == impl.TmSign && pub == impl.TmPub {
				want, wantOk = 1, true
			}
			checkSigned(t, a, 2, 3, want, wantOk)
		}
	}
}

// In a full arena what is there is found, and of what can't be made nothing stays.
func TestP4FullArena(t *testing.T) {
	there := []impl.Node{atomNode(0), atomNode(6), pubNode(0), pubNode(1), dhNode(0, 1), pairNode(1, 0), sealNode(0, 1)}
	full := arenaOf(there...)
	for i := range impl.MaxNodes - len(there) {
		full.Nodes = append(full.Nodes, atomNode(5000+i))
	}
	over := arenaOf(with(full, atomNode(70000), hashNode(6))...)
	for _, a := range []impl.Arena{full, over} {
		checkAtom(t, a, 6, a.Nodes, 1)
		checkAtom(t, a, 7, a.Nodes, -1)
		checkMake(t, a, impl.TmSeal, 0, 1, a.Nodes, 6)
		checkMake(t, a, impl.TmSeal, 1, 0, a.Nodes, -1)
		checkMake(t, a, impl.TmPub, 1, 5, a.Nodes, 3)
		checkMake(t, a, impl.TmHash, 0, 0, a.Nodes, -1)
		checkList(t, a, nil, a.Nodes, 0)
		checkList(t, a, []int{1}, a.Nodes, 5)
		checkList(t, a, []int{0}, a.Nodes, -1)
		checkList(t, a, []int{0, 1}, a.Nodes, -1)
		checkDh(t, a, 0, 3, a.Nodes, 4)
		checkDh(t, a, 1, 2, a.Nodes, 4)
		checkDh(t, a, 0, 2, a.Nodes, -1)
		checkDh(t, a, 2999, 2, a.Nodes, -1)
		checkOpen(t, a, 0, 6, 1, true)
		checkTermParts(t, a, 5, 1, []int{1}, true)
	}
}

// Room for some of what a list is made of is room for none of it.
func TestP4ListRoom(t *testing.T) {
	for room := range 6 {
		a := arenaOf()
		for i := range impl.MaxNodes - room {
			a.Nodes = append(a.Nodes, atomNode(5000+i))
		}
		end := len(a.Nodes)
		for n := range 7 {
			list := []int{3, 1, 4, 1, 5, 9, 2}[:n]
			if n+1 > room {
				checkList(t, a, list, a.Nodes, -1)
				continue
			}
			want := with(a, atomNode(0))
			for i := n - 1; i >= 0; i-- {
				want = append(want, pairNode(list[i], len(want)-1))
			}
			checkList(t, a, list, want, end+n)
		}
	}
}

// A node that is not right is of no kind, wherever it stands; ahead of others, and behind them, it leaves them what they are.
func TestP4WrongNodesAheadAndBehind(t *testing.T) {
	right := []impl.Node{atomNode(5), atomNode(0), pubNode(0), sealNode(0, 1), signNode(0, 3), pairNode(3, 1), atomNode(9)}
	for _, wrong := range wrongNodes {
		for at := range right {
			nodes := slices.Clone(right)
			nodes[at] = wrong
			checkAll(t, nodes)
			if at == len(right)-1 {
				a := arenaOf(nodes...)
				checkOpen(t, a, 0, 3, 1, true)
				checkSigned(t, a, 2, 4, 3, true)
				checkTermParts(t, a, 5, 1, []int{3}, true)
				checkNum(t, a, 0, 5, true)
				checkNum(t, a, at, 0, false)
			}
		}
		ahead := arenaOf(wrong, atomNode(5), atomNode(0), pubNode(1), sealNode(1, 2), signNode(1, 4), pairNode(4, 2), atomNode(9))
		checkOpen(t, ahead, 1, 4, 2, true)
		checkSigned(t, ahead, 3, 5, 4, true)
		checkTermParts(t, ahead, 6, 1, []int{4}, true)
		checkNum(t, ahead, 1, 5, true)
		checkNum(t, ahead, 0, 0, false)
		checkAll(t, ahead.Nodes)
	}
}

// Seals, signs, pubs and pairs of the right kind that are not right themselves: what they have is not handed out.
func TestP4KidsThatAreNotThereAreNotHandedOut(t *testing.T) {
	for _, bad := range []int{-1, 3, 4, 5, 3000, math.MaxInt, math.MinInt} {
		for _, num := range []int{0, 1} {
			at := func(kind, a, b int) impl.Arena {
				return arenaOf(atomNode(5), atomNode(0), pubNode(0), impl.Node{Kind: kind, Num: num, A: a, B: b}, signNode(0, 1))
			}
			checkOpen(t, at(impl.TmSeal, 0, bad), 0, 3, -1, false)
			checkOpen(t, at(impl.TmSeal, bad, 0), bad, 3, -1, false)
			checkSigned(t, at(impl.TmSign, 0, bad), 2, 3, -1, false)
			checkSigned(t, at(impl.TmSign, bad, 0), 2, 3, -1, false)
			checkSigned(t, at(impl.TmPub, bad, 0), 3, 4, -1, false)
			checkSigned(t, at(impl.TmPub, 0, bad), 3, 4, -1, false)
			checkDh(t, at(impl.TmPub, bad, 0), 0, 3, at(impl.TmPub, bad, 0).Nodes, -1)
			checkDh(t, at(impl.TmHash, bad, 0), 3, 2, at(impl.TmHash, bad, 0).Nodes, -1)
			for n := -1; n <= 3; n++ {
				checkTermParts(t, at(impl.TmPair, bad, 1), 3, n, nil, false)
				checkTermParts(t, at(impl.TmPair, 1, bad), 3, n, nil, false)
			}
		}
		for _, c := range []impl.Node{{Kind: impl.TmAtom, A: bad}, {Kind: impl.TmAtom, B: bad}, {Kind: impl.TmAtom, Num: -1}, {Kind: impl.TmAtom, Num: 1000000}} {
			checkNum(t, arenaOf(c), 0, 0, false)
			checkTermParts(t, arenaOf(c), 0, 0, nil, false)
		}
	}
	checkOpen(t, arenaOf(atomNode(5), impl.Node{Kind: impl.TmSeal, Num: 1}), 0, 1, -1, false)
	checkSigned(t, arenaOf(atomNode(5), pubNode(0), impl.Node{Kind: impl.TmSign, Num: 1}), 1, 2, -1, false)
	checkTermParts(t, arenaOf(atomNode(0), impl.Node{Kind: impl.TmPair, Num: 1}), 1, 1, nil, false)
}

// Of nodes that are there twice the first one is found, and the places count, not what stands there.
func TestP4NodesTwice(t *testing.T) {
	a := arenaOf(atomNode(0), atomNode(0), pubNode(1), pubNode(0), sealNode(1, 0), signNode(1, 0), sealNode(1, 0), pairNode(0, 1))
	checkAtom(t, a, 0, a.Nodes, 0)
	checkMake(t, a, impl.TmSeal, 1, 0, a.Nodes, 4)
	checkList(t, a, []int{0}, with(a, pairNode(0, 0)), 8)
	checkOpen(t, a, 1, 6, 0, true)
	checkOpen(t, a, 0, 6, -1, false)
	checkSigned(t, a, 2, 5, 0, true)
	checkSigned(t, a, 3, 5, -1, false)
	checkTermParts(t, a, 7, 1, []int{0}, true)
	checkTermParts(t, a, 1, 0, nil, true)
}

// checkAll holds every function of the chapter against its plain way, at all places and beside them.
func checkAll(t *testing.T, nodes []impl.Node) {
	t.Helper()
	a := arenaOf(nodes...)
	for x := -1; x <= len(nodes)+1; x++ {
		num, isAtom := plainNum(nodes, x)
		checkNum(t, a, x, num, isAtom)
		for n := -1; n <= 4; n++ {
			parts, ok := plainParts(nodes, x, n)
			checkTermParts(t, a, x, n, parts, ok)
		}
		for y := -1; y <= len(nodes)+1; y++ {
			in, ok := plainOpen(nodes, x, y)
			checkOpen(t, a, x, y, in, ok)
			in, ok = plainSigned(nodes, x, y)
			checkSigned(t, a, x, y, in, ok)
			want, k := plainDh(nodes, x, y)
			checkDh(t, a, x, y, want, k)
		}
	}
}

func drawList(draw *rand.Rand, end int) []int {
	list := make([]int, draw.Intn(5))
	for i := range list {
		list[i] = draw.Intn(end + 1)
		if draw.Intn(12) == 0 {
			list[i] = draw.Intn(end+4) - 1
		}
	}
	return list
}

// Drawn arenas, most of them not right: every function answers as the plain way does.
func TestP4DrawnArenas(t *testing.T) {
	draw := rand.New(rand.NewSource(6))
	for range 4000 {
		nodes := drawNodes(draw, 9, drawNode)
		checkAll(t, nodes)
		a := arenaOf(nodes...)
		for range 6 {
			n := draw.Intn(5) - 1
			want, k := plainAtom(nodes, n)
			checkAtom(t, a, n, want, k)
			kind, x, y := draw.Intn(12)-1, draw.Intn(len(nodes)+3)-1, draw.Intn(len(nodes)+3)-1
			want, k = plainMake(nodes, kind, x, y)
			checkMake(t, a, kind, x, y, want, k)
			list := drawList(draw, max(len(nodes)-1, 0))
			want, k = plainList(nodes, list)
			checkList(t, a, list, want, k)
		}
	}
}

// A right arena grows by what is drawn, and stays right; what was made tells what it was made of.
func TestP4DrawnMakes(t *testing.T) {
	draw := rand.New(rand.NewSource(7))
	for range 40 {
		a, _ := impl.Atom(impl.Arena{}, 1000+draw.Intn(1000))
		for range 60 {
			x, y := draw.Intn(len(a.Nodes)), draw.Intn(len(a.Nodes))
			a = drawnMake(t, draw, a, x, y)
			if !impl.ArenaOk(a) {
				t.Fatalf("what is made makes an arena that is not right: %v", a.Nodes)
			}
		}
	}
}

func drawnMake(t *testing.T, draw *rand.Rand, a impl.Arena, x, y int) impl.Arena {
	t.Helper()
	switch draw.Intn(5) {
	case 0:
		a, k := impl.Make(a, impl.TmSeal, x, y)
		for key := range a.Nodes {
			want, wantOk := -1, false
			if key == x {
				want, wantOk = y, true
			}
			checkOpen(t, a, key, k, want, wantOk)
		}
		return a
	case 1:
		a, pub := impl.Make(a, impl.TmPub, x, y)
		a, k := impl.Make(a, impl.TmSign, x, y)
		for other := range a.Nodes {
			want, wantOk := -1, false
			if other == pub {
				want, wantOk = y, true
			}
			checkSigned(t, a, other, k, want, wantOk)
		}
		return a
	case 2:
		list := drawList(draw, len(a.Nodes)-1)
		want, k := plainList(a.Nodes, list)
		checkList(t, a, list, want, k)
		if k >= 0 {
			checkTermParts(t, arenaOf(want...), k, len(list), list, true)
		}
		return arenaOf(want...)
	case 3:
		a, u := impl.Make(a, impl.TmPub, x, 0)
		a, v := impl.Make(a, impl.TmPub, y, 0)
		a, d := impl.DhOf(a, x, v)
		if n := a.Nodes[d]; n != dhNode(x, y) && n != dhNode(y, x) {
			t.Fatalf("DhOf %d and a pub of %d is %v", x, y, n)
		}
		checkDh(t, a, y, u, a.Nodes, d)
		return a
	}
	n := 1000 + draw.Intn(1000)
	a, k := impl.Atom(a, n)
	checkNum(t, a, k, n, true)
	return a
}

// Every answer is changed all over; the arguments and the spare room behind them stay as they are, and so does the next answer.
func TestP4AnswersAreNewMemory(t *testing.T) {
	first := []impl.Node{atomNode(7), atomNode(0), pubNode(0), pairNode(0, 1), atomNode(8), pubNode(4), sealNode(0, 4)}
	spare := impl.Node{Kind: 55, Num: 55, A: 55, B: 55}
	room := append(slices.Clone(first), spare, spare, spare, spare)
	a := impl.Arena{Nodes: room[:len(first)]}
	lists := []int{0, 4, 66, 66, 66}
	list := lists[:2]
	spoil := func(b impl.Arena, _ int) {
		nodes := b.Nodes[:cap(b.Nodes)]
		for i := range nodes {
			nodes[i] = impl.Node{Kind: -9}
		}
	}
	for range 2 {
		for _, n := range []int{7, 9, -1} {
			spoil(impl.Atom(a, n))
		}
		for kind := -1; kind <= 10; kind++ {
			spoil(impl.Make(a, kind, 0, 4))
			spoil(impl.Make(a, kind, 0, 77))
		}
		for _, l := range [][]int{nil, list, list[:1], {0}, {7, 0}, {99}, {0, 99}, {99, 0}} {
			spoil(impl.List(a, l))
		}
		for _, pub := range []int{2, 5, 0, 99} {
			spoil(impl.DhOf(a, 0, pub))
		}
		parts, _ := impl.Parts(a, 3, 1)
		for i := range parts[:cap(parts)] {
			parts[:cap(parts)][i] = -9
		}
		impl.Open(a, 0, 6)
		impl.Signed(a, 2, 6)
		impl.NumOf(a, 0)
		if !slices.Equal(room, append(slices.Clone(first), spare, spare, spare, spare)) {
			t.Fatalf("the arena, or the room behind it, became %v", room)
		}
		if !slices.Equal(lists, []int{0, 4, 66, 66, 66}) {
			t.Fatalf("the list, or the room behind it, became %v", lists)
		}
	}
	checkList(t, a, list, with(a, pairNode(4, 1), pairNode(0, 7)), 8)
	checkDh(t, a, 0, 5, with(a, dhNode(0, 4)), 7)
	checkTermParts(t, a, 3, 1, []int{0}, true)
}
