package tests

import (
	"fmt"
	"math"
	"math/rand"
	"slices"
	"strings"
	"testing"

	"loop.example/g00466/impl"
)

var (
	oneKinds = []int{impl.TmHash, impl.TmPub}
	twoKinds = []int{impl.TmPair, impl.TmKdf, impl.TmSeal, impl.TmDh, impl.TmSign, impl.TmMac}
)

// tree is a term apart from any arena: its parts are trees, not places.
type tree struct {
	kind, num int
	parts     []*tree
}

func atomTree(num int) *tree { return &tree{kind: impl.TmAtom, num: num} }

func treeOf(kind int, parts ...*tree) *tree { return &tree{kind: kind, parts: parts} }

// partsOfKind is how many terms a node of a kind has; -1 of a kind that there is not.
func partsOfKind(kind int) int {
	switch {
	case kind == impl.TmAtom:
		return 0
	case slices.Contains(oneKinds, kind):
		return 1
	case slices.Contains(twoKinds, kind):
		return 2
	}
	return -1
}

func plainVar(n int) string {
	if n < 128 {
		return string([]byte{byte(n)})
	}
	return string([]byte{byte(n&127 | 128)}) + plainVar(n>>7)
}

func treeText(x *tree) string {
	if x.kind == impl.TmAtom {
		return plainVar(x.kind) + plainVar(x.num)
	}
	text := plainVar(x.kind)
	for _, p := range x.parts {
		text += treeText(p)
	}
	return text
}

func treeSize(x *tree) int {
	size := 1
	for _, p := range x.parts {
		size += treeSize(p)
	}
	return size
}

// readTree takes a text apart by the forms of its bytes alone; nil when it is no tree's text.
func readTree(text string) (*tree, string) {
	kind, text, ok := cutVar(text)
	n := partsOfKind(kind)
	if !ok || n < 0 {
		return nil, ""
	}
	x := &tree{kind: kind}
	if n == 0 {
		x.num, text, ok = cutVar(text)
		if !ok || x.num > 999999 {
			return nil, ""
		}
	}
	for range n {
		var p *tree
		if p, text = readTree(text); p == nil {
			return nil, ""
		}
		x.parts = append(x.parts, p)
	}
	return x, text
}

func cutVar(text string) (int, string, bool) {
	end := 0
	for end < len(text) && text[end] >= 128 {
		end++
	}
	if end == len(text) || end > 4 {
		return 0, "", false
	}
	n := 0
	for i := end; i >= 0; i-- {
		n = n<<7 | int(text[i]&127)
	}
	return n, text[end+1:], plainVar(n) == text[:end+1]
}

func plainNodeOk(nodes []impl.Node, k int) bool {
	if k < 0 || k >= len(nodes) {
		return false
	}
	n := nodes[k]
	ahead := func(x int) bool { return 0 <= x && x < k }
	switch partsOfKind(n.Kind) {
	case 0:
		return 0 <= n.Num && n.Num <= 999999 && n.A == 0 && n.B == 0
	case 1:
		return n.Num == 0 && ahead(n.A) && n.B == 0
	case 2:
		return n.Num == 0 && ahead(n.A) && ahead(n.B)
	}
	return false
}

// treeAt is the term at a place, and nil where a node up to it is not right.
func treeAt(nodes []impl.Node, k int) *tree {
	if k < 0 || k >= len(nodes) {
		return nil
	}
	for i := range k + 1 {
		if !plainNodeOk(nodes, i) {
			return nil
		}
	}
	var grow func(k int) *tree
	grow = func(k int) *tree {
		n := nodes[k]
		switch partsOfKind(n.Kind) {
		case 1:
			return treeOf(n.Kind, grow(n.A))
		case 2:
			return treeOf(n.Kind, grow(n.A), grow(n.B))
		}
		return atomTree(n.Num)
	}
	return grow(k)
}

func plainPut(nodes []impl.Node, n impl.Node) ([]impl.Node, int) {
	with := append(slices.Clone(nodes), n)
	if !plainNodeOk(with, len(nodes)) {
		return nodes, -1
	}
	for k := range nodes {
		if nodes[k] == n {
			return nodes, k
		}
	}
	if len(nodes) >= 3000 {
		return nodes, -1
	}
	return with, len(nodes)
}

func putTree(nodes []impl.Node, x *tree) ([]impl.Node, int) {
	n := impl.Node{Kind: x.kind, Num: x.num}
	places := [2]int{}
	for i, p := range x.parts {
		if nodes, places[i] = putTree(nodes, p); places[i] < 0 {
			return nodes, -1
		}
	}
	n.A, n.B = places[0], places[1]
	return plainPut(nodes, n)
}

func plainRead(nodes []impl.Node, text string) ([]impl.Node, int, bool) {
	x, rest := readTree(text)
	if x == nil || rest != "" || treeSize(x) > 2000 {
		return nodes, -1, false
	}
	with, k := putTree(nodes, x)
	if got := treeAt(with, k); got == nil || treeText(got) != text {
		return nodes, -1, false
	}
	return with, k, true
}

func arenaOf(nodes ...impl.Node) impl.Arena { return impl.Arena{Nodes: nodes} }

func atomNode(num int) impl.Node { return impl.Node{Kind: impl.TmAtom, Num: num} }

func hashNode(a int) impl.Node { return impl.Node{Kind: impl.TmHash, A: a} }

func pairNode(a, b int) impl.Node { return impl.Node{Kind: impl.TmPair, A: a, B: b} }

// brief is the beginning of what is told of an arena or a list: one of MaxNodes would fill pages.
func brief(told any) string { return fmt.Sprintf("%.400s", fmt.Sprint(told)) }

// atomsArena has as many atoms, no two the same.
func atomsArena(n int) impl.Arena {
	var a impl.Arena
	for i := range n {
		a.Nodes = append(a.Nodes, atomNode(i))
	}
	return a
}

func checkPut(t *testing.T, a impl.Arena, n impl.Node, want []impl.Node, wantK int) {
	t.Helper()
	b, k := impl.Put(a, n)
	if !slices.Equal(b.Nodes, want) || k != wantK {
		t.Errorf("Put(%s of %d nodes, %v) = %s of %d nodes, %d; want %s of %d nodes, %d", brief(a), len(a.Nodes), n, brief(b.Nodes), len(b.Nodes), k, brief(want), len(want), wantK)
	}
}

func checkSize(t *testing.T, a impl.Arena, k int, want int) {
	t.Helper()
	if got := impl.SizeOf(a, k); got != want {
		t.Errorf("SizeOf(%s of %d nodes, %d) = %d; want %d", brief(a), len(a.Nodes), k, got, want)
	}
}

func checkText(t *testing.T, a impl.Arena, k int, want string, wantOk bool) {
	t.Helper()
	if s, ok := impl.TermText(a, k); s != want || ok != wantOk {
		t.Errorf("TermText(%s of %d nodes, %d) = %.40q of %d bytes, %v; want %.40q of %d bytes, %v", brief(a), len(a.Nodes), k, s, len(s), ok, want, len(want), wantOk)
	}
}

func checkRead(t *testing.T, a impl.Arena, text string, want []impl.Node, wantK int, wantOk bool) {
	t.Helper()
	b, k, ok := impl.ReadTerm(a, text)
	if !slices.Equal(b.Nodes, want) || k != wantK || ok != wantOk {
		t.Errorf("ReadTerm(%s of %d nodes, %.40q of %d bytes) = %s of %d nodes, %d, %v; want %s of %d nodes, %d, %v", brief(a), len(a.Nodes), text, len(text), brief(b.Nodes), len(b.Nodes), k, ok, brief(want), len(want), wantK, wantOk)
	}
}

func checkNotRead(t *testing.T, a impl.Arena, text string) {
	t.Helper()
	checkRead(t, a, text, a.Nodes, -1, false)
}

func TestP3Constants(t *testing.T) {
	got := []int{impl.TmAtom, impl.TmPair, impl.TmHash, impl.TmKdf, impl.TmSeal, impl.TmPub, impl.TmDh, impl.TmSign, impl.TmMac, impl.MaxNodes}
	if want := []int{1, 2, 3, 4, 5, 6, 7, 8, 9, 3000}; !slices.Equal(got, want) {
		t.Errorf("constants %d; want %d", got, want)
	}
}

// Each kind at the place 2, with each field at its edges and beside them.
func TestP3NodeOkOfEachKind(t *testing.T) {
	values := []int{math.MinInt, -1, 0, 1, 2, 3, 999999, 1000000, math.MaxInt}
	for kind := -1; kind <= 11; kind++ {
		for _, num := range values {
			for _, x := range values {
				for _, y := range values {
					n := impl.Node{Kind: kind, Num: num, A: x, B: y}
					a := arenaOf(atomNode(1), atomNode(2), n, atomNode(3), atomNode(4))
					if got, want := impl.NodeOk(a, 2), plainNodeOk(a.Nodes, 2); got != want {
						t.Errorf("NodeOk of %v at 2 = %v; want %v", n, got, want)
					}
				}
			}
		}
	}
	for _, kind := range []int{math.MinInt, math.MaxInt, 257, 1 << 32, 1<<32 + 1} {
		if impl.NodeOk(arenaOf(impl.Node{Kind: kind}), 0) {
			t.Errorf("NodeOk of kind %d", kind)
		}
	}
}

func TestP3NodeOkEdges(t *testing.T) {
	for _, c := range []struct {
		name string
		n    impl.Node
		want bool
	}{
		{"atom 0", atomNode(0), true},
		{"atom 999999", atomNode(999999), true},
		{"atom -1", atomNode(-1), false},
		{"atom 1000000", atomNode(1000000), false},
		{"atom with A", impl.Node{Kind: impl.TmAtom, Num: 5, A: 1}, false},
		{"atom with B", impl.Node{Kind: impl.TmAtom, Num: 5, B: 1}, false},
		{"hash of the first", hashNode(0), true},
		{"hash of the last ahead", hashNode(1), true},
		{"hash of itself", hashNode(2), false},
		{"hash of one behind", hashNode(3), false},
		{"hash of none", hashNode(-1), false},
		{"hash with B", impl.Node{Kind: impl.TmHash, A: 1, B: 1}, false},
		{"pub with Num", impl.Node{Kind: impl.TmPub, Num: 1, A: 1}, false},
		{"pair of the last ahead", pairNode(1, 1), true},
		{"pair with A itself", pairNode(2, 1), false},
		{"pair with B itself", pairNode(1, 2), false},
		{"pair with Num", impl.Node{Kind: impl.TmPair, Num: 1}, false},
		{"nothing", impl.Node{}, false},
	} {
		a := arenaOf(atomNode(1), atomNode(2), c.n, atomNode(3))
		if got := impl.NodeOk(a, 2); got != c.want {
			t.Errorf("NodeOk of %s = %v; want %v", c.name, got, c.want)
		}
	}
}

func TestP3NodeOkPlaces(t *testing.T) {
	a := arenaOf(atomNode(1), hashNode(0))
	for k, want := range map[int]bool{0: true, 1: true, 2: false, -1: false, 100: false, math.MaxInt: false, math.MinInt: false} {
		if got := impl.NodeOk(a, k); got != want {
			t.Errorf("NodeOk at %d = %v; want %v", k, got, want)
		}
	}
	if impl.NodeOk(impl.Arena{}, 0) || impl.NodeOk(impl.Arena{}, -1) {
		t.Error("NodeOk in an empty arena")
	}
	if impl.NodeOk(arenaOf(hashNode(0)), 0) || impl.NodeOk(arenaOf(pairNode(0, 0)), 0) {
		t.Error("the first node has no terms ahead of it")
	}
}

// Of the nodes ahead it is asked that they are there, not what they are.
func TestP3NodeOkLooksAtOneNode(t *testing.T) {
	a := arenaOf(impl.Node{Kind: 77}, hashNode(0), atomNode(-1), hashNode(0))
	if impl.NodeOk(a, 0) || !impl.NodeOk(a, 1) || impl.NodeOk(a, 2) || !impl.NodeOk(a, 3) {
		t.Error("a node is right or not by itself")
	}
}

func TestP3ArenaOk(t *testing.T) {
	right := arenaOf(atomNode(7), atomNode(0), hashNode(0), pairNode(0, 2), pairNode(2, 0), impl.Node{Kind: impl.TmPub, A: 0}, impl.Node{Kind: impl.TmKdf, A: 0, B: 2})
	for _, a := range []impl.Arena{{}, {Nodes: []impl.Node{}}, arenaOf(atomNode(0)), right, atomsArena(impl.MaxNodes - 1), atomsArena(impl.MaxNodes)} {
		if !impl.ArenaOk(a) {
			t.Errorf("ArenaOk(%s of %d nodes) = false", brief(a), len(a.Nodes))
		}
	}
	for _, a := range []impl.Arena{atomsArena(impl.MaxNodes + 1), atomsArena(2 * impl.MaxNodes), arenaOf(impl.Node{}), arenaOf(hashNode(0))} {
		if impl.ArenaOk(a) {
			t.Errorf("ArenaOk(%s of %d nodes) = true", brief(a), len(a.Nodes))
		}
	}
	for k := range right.Nodes {
		wrong := slices.Clone(right.Nodes)
		wrong[k].Num = -1
		if impl.ArenaOk(arenaOf(wrong...)) {
			t.Errorf("ArenaOk with a node that is not right at %d", k)
		}
		for at := k + 1; at <= len(right.Nodes); at++ {
			if impl.ArenaOk(arenaOf(slices.Insert(slices.Clone(right.Nodes), at, right.Nodes[k])...)) {
				t.Errorf("ArenaOk with the node of %d at %d, too", k, at)
			}
		}
	}
	full := atomsArena(impl.MaxNodes)
	full.Nodes[impl.MaxNodes-1] = full.Nodes[0]
	if impl.ArenaOk(full) {
		t.Error("ArenaOk with the first one at the end, too")
	}
}

func TestP3PutTwiceIsThereOnce(t *testing.T) {
	nodes := []impl.Node{atomNode(7), atomNode(0), atomNode(999999), hashNode(0), {Kind: impl.TmPub, A: 0}}
	for _, kind := range twoKinds {
		nodes = append(nodes, impl.Node{Kind: kind, A: 3, B: 0}, impl.Node{Kind: kind, A: 0, B: 3}, impl.Node{Kind: kind, A: 3, B: 3})
	}
	var a impl.Arena
	for i, n := range nodes {
		checkPut(t, a, n, nodes[:i+1], i)
		a, _ = impl.Put(a, n)
	}
	for i, n := range nodes {
		checkPut(t, a, n, nodes, i)
	}
	if !impl.ArenaOk(a) {
		t.Error("what is put makes an arena that is not right")
	}
}

func TestP3PutRefuses(t *testing.T) {
	a := arenaOf(atomNode(1), atomNode(2))
	for _, n := range []impl.Node{
		{}, {Kind: 10}, {Kind: -1}, {Kind: math.MaxInt}, {Num: 7},
		atomNode(-1), atomNode(1000000), atomNode(math.MaxInt), atomNode(math.MinInt),
		{Kind: impl.TmAtom, Num: 1, A: 1}, {Kind: impl.TmAtom, Num: 1, B: 1}, {Kind: impl.TmAtom, Num: 1, A: -1},
		hashNode(2), hashNode(3), hashNode(-1), hashNode(math.MaxInt), hashNode(math.MinInt),
		{Kind: impl.TmHash, A: 1, B: 1}, {Kind: impl.TmPub, A: 1, Num: 1},
		pairNode(2, 0), pairNode(0, 2), pairNode(-1, 0), pairNode(0, -1), {Kind: impl.TmMac, A: 1, B: 1, Num: 1},
	} {
		checkPut(t, a, n, a.Nodes, -1)
	}
	checkPut(t, a, hashNode(1), append(slices.Clone(a.Nodes), hashNode(1)), 2)
	checkPut(t, a, pairNode(1, 1), append(slices.Clone(a.Nodes), pairNode(1, 1)), 2)
	for _, n := range []impl.Node{hashNode(0), pairNode(0, 0), {}} {
		checkPut(t, impl.Arena{}, n, nil, -1)
	}
}

func TestP3PutRoom(t *testing.T) {
	most := atomsArena(impl.MaxNodes - 1)
	full := append(slices.Clone(most.Nodes), atomNode(5000))
	checkPut(t, most, atomNode(5000), full, impl.MaxNodes-1)
	for _, a := range []impl.Arena{{Nodes: full}, atomsArena(impl.MaxNodes + 1), atomsArena(2 * impl.MaxNodes)} {
		checkPut(t, a, atomNode(70000), a.Nodes, -1)
		checkPut(t, a, hashNode(0), a.Nodes, -1)
		checkPut(t, a, a.Nodes[0], a.Nodes, 0)
		checkPut(t, a, a.Nodes[len(a.Nodes)-1], a.Nodes, len(a.Nodes)-1)
	}
}

// Arenas that are not right: what is asked of a node that is put is that it is right behind all others.
func TestP3PutIntoWrongArenas(t *testing.T) {
	twice := arenaOf(atomNode(7), atomNode(8), atomNode(8), hashNode(2), atomNode(7))
	checkPut(t, twice, atomNode(7), twice.Nodes, 0)
	checkPut(t, twice, atomNode(8), twice.Nodes, 1)
	checkPut(t, twice, hashNode(2), twice.Nodes, 3)
	checkPut(t, twice, hashNode(1), append(slices.Clone(twice.Nodes), hashNode(1)), 5)
	wrong := arenaOf(impl.Node{Kind: 77}, hashNode(3), atomNode(-5), atomNode(9))
	checkPut(t, wrong, impl.Node{Kind: 77}, wrong.Nodes, -1)
	checkPut(t, wrong, atomNode(-5), wrong.Nodes, -1)
	checkPut(t, wrong, atomNode(9), wrong.Nodes, 3)
	checkPut(t, wrong, hashNode(3), wrong.Nodes, 1)
	checkPut(t, wrong, hashNode(0), append(slices.Clone(wrong.Nodes), hashNode(0)), 4)
}

// arenaOfSize has a term of just that size at its end: of twice as much and one by a pair of one term with itself, of one more by a hash.
func arenaOfSize(size int) impl.Arena {
	if size == 1 {
		return arenaOf(atomNode(1))
	}
	half := size - 1
	if size%2 == 1 {
		half /= 2
	}
	a := arenaOfSize(half)
	last := len(a.Nodes) - 1
	if size%2 == 1 {
		return arenaOf(append(a.Nodes, pairNode(last, last))...)
	}
	return arenaOf(append(a.Nodes, hashNode(last))...)
}

func TestP3SizeOf(t *testing.T) {
	a := arenaOf(atomNode(7), hashNode(0), pairNode(0, 1), pairNode(2, 2), impl.Node{Kind: impl.TmPub, A: 3}, impl.Node{Kind: impl.TmSeal, A: 4, B: 0})
	for k, want := range []int{1, 2, 4, 9, 10, 12} {
		checkSize(t, a, k, want)
	}
	for _, k := range []int{-1, 6, 7, math.MaxInt, math.MinInt} {
		checkSize(t, a, k, 0)
	}
	checkSize(t, impl.Arena{}, 0, 0)
	for _, size := range []int{1, 2, 3, 1999, 2000, 2001, 65535, 99998, 99999, 100000} {
		a := arenaOfSize(size)
		checkSize(t, a, len(a.Nodes)-1, size)
	}
	for _, size := range []int{100001, 100002, 199999, 200001, 1 << 30, 1<<62 - 1} {
		a := arenaOfSize(size)
		checkSize(t, a, len(a.Nodes)-1, 100000)
	}
}

// A size that would be beyond any int, and arenas beyond MaxNodes.
func TestP3SizeOfGreatTerms(t *testing.T) {
	nodes := []impl.Node{atomNode(1)}
	for k := range 20000 {
		nodes = append(nodes, pairNode(k, k))
	}
	a := arenaOf(nodes...)
	for k, want := range map[int]int{0: 1, 1: 3, 15: 65535, 16: 100000, 17: 100000, 63: 100000, 64: 100000, 2999: 100000, 20000: 100000} {
		checkSize(t, a, k, want)
	}
	checkText(t, a, 20000, "", false)
	chain := []impl.Node{atomNode(1)}
	for k := range 100500 {
		chain = append(chain, hashNode(k))
	}
	for k, want := range map[int]int{0: 1, 2999: 3000, 99998: 99999, 99999: 100000, 100000: 100000, 100500: 100000} {
		checkSize(t, arenaOf(chain...), k, want)
	}
}

func TestP3WrongNodesAheadAndBehind(t *testing.T) {
	right := []impl.Node{atomNode(7), atomNode(8), hashNode(0), pairNode(2, 0), atomNode(9)}
	for _, wrong := range []impl.Node{{}, {Kind: 10}, atomNode(-1), atomNode(1000000), hashNode(-1), hashNode(77), pairNode(0, 77), {Kind: impl.TmAtom, A: 1}} {
		for at := range right {
			nodes := slices.Clone(right)
			nodes[at] = wrong
			a := arenaOf(nodes...)
			for k := range nodes {
				want := treeAt(nodes, k)
				if (want == nil) != (k >= at) {
					t.Fatalf("the plain way is wrong at %d", k)
				}
				if want == nil {
					checkSize(t, a, k, 0)
					checkText(t, a, k, "", false)
				} else {
					checkSize(t, a, k, treeSize(want))
					checkText(t, a, k, treeText(want), true)
				}
			}
		}
	}
}

// Texts of each kind, worked out by hand, and what they bring to an empty arena.
var termForms = []struct {
	text  string
	nodes []impl.Node
}{
	{"\x01\x00", []impl.Node{atomNode(0)}},
	{"\x01\x07", []impl.Node{atomNode(7)}},
	{"\x01\xac\x02", []impl.Node{atomNode(300)}},
	{"\x01\xbf\x84\x3d", []impl.Node{atomNode(999999)}},
	{"\x02\x01\x05\x01\x06", []impl.Node{atomNode(5), atomNode(6), {Kind: impl.TmPair, A: 0, B: 1}}},
	{"\x02\x01\x05\x01\x05", []impl.Node{atomNode(5), {Kind: impl.TmPair, A: 0, B: 0}}},
	{"\x03\x01\x07", []impl.Node{atomNode(7), {Kind: impl.TmHash, A: 0}}},
	{"\x04\x01\x05\x01\x06", []impl.Node{atomNode(5), atomNode(6), {Kind: impl.TmKdf, A: 0, B: 1}}},
	{"\x05\x01\x05\x01\x06", []impl.Node{atomNode(5), atomNode(6), {Kind: impl.TmSeal, A: 0, B: 1}}},
	{"\x06\x01\x07", []impl.Node{atomNode(7), {Kind: impl.TmPub, A: 0}}},
	{"\x07\x01\x05\x01\x06", []impl.Node{atomNode(5), atomNode(6), {Kind: impl.TmDh, A: 0, B: 1}}},
	{"\x08\x01\x05\x01\x06", []impl.Node{atomNode(5), atomNode(6), {Kind: impl.TmSign, A: 0, B: 1}}},
	{"\x09\x01\x05\x01\x06", []impl.Node{atomNode(5), atomNode(6), {Kind: impl.TmMac, A: 0, B: 1}}},
	{"\x06\x03\x06\x01\x07", []impl.Node{atomNode(7), {Kind: impl.TmPub, A: 0}, {Kind: impl.TmHash, A: 1}, {Kind: impl.TmPub, A: 2}}},
	// The same hash on both sides is there once.
	{"\x02\x03\x01\x05\x03\x01\x05", []impl.Node{atomNode(5), {Kind: impl.TmHash, A: 0}, {Kind: impl.TmPair, A: 1, B: 1}}},
	// What stands within A is there already, when B comes to it.
	{"\x05\x04\x01\x05\x01\x06\x02\x01\x06\x03\x01\x05", []impl.Node{
		atomNode(5), atomNode(6), {Kind: impl.TmKdf, A: 0, B: 1},
		{Kind: impl.TmHash, A: 0}, {Kind: impl.TmPair, A: 1, B: 3}, {Kind: impl.TmSeal, A: 2, B: 4},
	}},
	{"\x09\x02\x01\x01\x02\x01\x02\x01\x03\x08\x01\x04\x06\x01\x01", []impl.Node{
		atomNode(1), atomNode(2), atomNode(3), {Kind: impl.TmPair, A: 1, B: 2}, {Kind: impl.TmPair, A: 0, B: 3},
		atomNode(4), {Kind: impl.TmPub, A: 0}, {Kind: impl.TmSign, A: 5, B: 6}, {Kind: impl.TmMac, A: 4, B: 7},
	}},
}

func TestP3TermsComeBack(t *testing.T) {
	for _, f := range termForms {
		last := len(f.nodes) - 1
		a := arenaOf(f.nodes...)
		checkText(t, a, last, f.text, true)
		checkRead(t, impl.Arena{}, f.text, f.nodes, last, true)
		checkRead(t, a, f.text, f.nodes, last, true)
		if b, _, _ := impl.ReadTerm(impl.Arena{}, f.text); !impl.ArenaOk(b) {
			t.Errorf("ReadTerm of %q makes an arena that is not right", f.text)
		}
	}
}

// Each text is read into the arena that all texts ahead of it made, and then again.
func TestP3TermsComeBackIntoOneArena(t *testing.T) {
	var a impl.Arena
	places := make([]int, len(termForms))
	for i, f := range termForms {
		want, wantK, _ := plainRead(a.Nodes, f.text)
		checkRead(t, a, f.text, want, wantK, true)
		a, places[i], _ = impl.ReadTerm(a, f.text)
	}
	if !impl.ArenaOk(a) {
		t.Error("what is read makes an arena that is not right")
	}
	for i, f := range termForms {
		checkText(t, a, places[i], f.text, true)
		checkRead(t, a, f.text, a.Nodes, places[i], true)
	}
}

func TestP3ReadTermPutsWhatIsMissing(t *testing.T) {
	text := "\x02\x03\x01\x05\x04\x01\x06\x01\x05" // pair of hash of 5, and kdf of 6 and 5
	kdf := func(x, y int) impl.Node { return impl.Node{Kind: impl.TmKdf, A: x, B: y} }
	for _, c := range []struct{ has, brings []impl.Node }{
		{nil, []impl.Node{atomNode(5), hashNode(0), atomNode(6), kdf(2, 0), pairNode(1, 3)}},
		{[]impl.Node{atomNode(6)}, []impl.Node{atomNode(5), hashNode(1), kdf(0, 1), pairNode(2, 3)}},
		{[]impl.Node{atomNode(9), atomNode(5)}, []impl.Node{hashNode(1), atomNode(6), kdf(3, 1), pairNode(2, 4)}},
		{[]impl.Node{atomNode(6), atomNode(5), kdf(0, 1)}, []impl.Node{hashNode(1), pairNode(3, 2)}},
		{[]impl.Node{atomNode(6), atomNode(5), kdf(1, 0)}, []impl.Node{hashNode(1), kdf(0, 1), pairNode(3, 4)}},
		{[]impl.Node{atomNode(6), atomNode(5), kdf(0, 1), hashNode(1)}, []impl.Node{pairNode(3, 2)}},
		{[]impl.Node{atomNode(6), atomNode(5), kdf(0, 1), hashNode(1), pairNode(2, 3)}, []impl.Node{pairNode(3, 2)}},
	} {
		want := append(slices.Clone(c.has), c.brings...)
		checkRead(t, arenaOf(c.has...), text, want, len(want)-1, true)
		checkRead(t, arenaOf(want...), text, want, len(want)-1, true)
	}
	has := arenaOf(atomNode(5), hashNode(0), atomNode(6))
	checkRead(t, has, "\x03\x01\x05", has.Nodes, 1, true)
	checkRead(t, has, "\x01\x05", has.Nodes, 0, true)
}

func TestP3WrongTextsAreRefused(t *testing.T) {
	arenas := []impl.Arena{{}, arenaOf(atomNode(5), atomNode(6), hashNode(0), pairNode(0, 1))}
	for _, text := range []string{
		"", "\x00", "\x01", "\x02", "\x03", "\x0a", "\x7f", "\xff",
		"\x00\x05", "\x0a\x01\x05", "\x0a\x01\x05\x01\x05", "\x0b\x05", "\x81\x01\x05", "\xff\xff\xff\xff\x7f",
		"\x03\x00", "\x03\x0a\x01\x05", "\x02\x01\x05\x00", "\x02\x00\x01\x05", "\x02\x0a\x01\x05\x01\x05",
		"\x01\xc0\x84\x3d",         // 1000000
		"\x01\xc1\x84\x3d",         // 1000001
		"\x01\x80\x94\xeb\xdc\x03", // MaxNumber
		"\x01\x81\x94\xeb\xdc\x03", // MaxNumber and 1
		"\x03\x01\xc0\x84\x3d", "\x02\x01\x05\x01\xc0\x84\x3d", "\x02\x01\xc0\x84\x3d\x01\x05",
		"\x01\x85\x00", "\x01\x80\x00", "\x01\xac\x82\x00", "\x01\xbf\x84\xbd\x00", "\x81\x00\x05", "\x83\x00\x01\x05", "\x03\x81\x00\x05",
		"\x02\x85\x00\x01\x05", "\x02\x01\x05\x81\x00\x06", "\x02\x01\x85\x00\x01\x06",
		"\x03", "\x03\x03", "\x03\x01", "\x02\x01\x05", "\x02\x01\x05\x01",
		strings.Repeat("\x03", 100000), strings.Repeat("\x02", 100000), strings.Repeat("\x01", 100000), strings.Repeat("\x80", 100000),
		strings.Repeat("\x03", 100000) + "\x01\x05",
		strings.Repeat("\x02\x01\x05", 5000) + "\x01\x05",
	} {
		for _, a := range arenas {
			checkNotRead(t, a, text)
		}
	}
}

func TestP3CutAndLongerTextsAreRefused(t *testing.T) {
	for _, f := range termForms {
		for _, a := range []impl.Arena{{}, arenaOf(f.nodes...)} {
			for cut := range len(f.text) {
				checkNotRead(t, a, f.text[:cut])
			}
			for b := range 256 {
				checkNotRead(t, a, f.text+string([]byte{byte(b)}))
			}
			checkNotRead(t, a, f.text+f.text)
			checkNotRead(t, a, "\x00"+f.text)
		}
	}
}

// Every text of a few telling bytes is read just when it is a term's text.
func TestP3ReadTermReadsTermTextAlone(t *testing.T) {
	arenas := []impl.Arena{{}, arenaOf(atomNode(1), hashNode(0), atomNode(2))}
	eachText("\x00\x01\x02\x03\x06\x09\x0a\x80\xbf\x84\x3d", 5, func(text string) {
		for _, a := range arenas {
			want, wantK, wantOk := plainRead(a.Nodes, text)
			checkRead(t, a, text, want, wantK, wantOk)
		}
	})
}

func TestP3TextLimit(t *testing.T) {
	for _, size := range []int{1999, 2000, 2001, 2002, 4001, 65535, 100000} {
		a := arenaOfSize(size)
		last := len(a.Nodes) - 1
		text := treeText(treeAt(a.Nodes, last))
		if size > 2000 {
			checkText(t, a, last, "", false)
			checkNotRead(t, a, text)
			checkNotRead(t, impl.Arena{}, text)
			continue
		}
		checkText(t, a, last, text, true)
		checkRead(t, a, text, a.Nodes, last, true)
		checkRead(t, impl.Arena{}, text, a.Nodes, last, true)
	}
}

// The limit in shapes that are as deep as they can be, to either side.
func TestP3TextLimitOfDeepTerms(t *testing.T) {
	for _, c := range []struct {
		size  int
		text  string
		nodes int
	}{
		{2000, strings.Repeat("\x03", 1999) + "\x01\x05", 2000},
		{2001, strings.Repeat("\x03", 2000) + "\x01\x05", 0},
		{1999, strings.Repeat("\x02\x01\x05", 999) + "\x01\x05", 1000},
		{2001, strings.Repeat("\x02\x01\x05", 1000) + "\x01\x05", 0},
		{1999, strings.Repeat("\x02", 999) + strings.Repeat("\x01\x05", 1000), 1000},
		{2001, strings.Repeat("\x02", 1000) + strings.Repeat("\x01\x05", 1001), 0},
		{2000, "\x03" + strings.Repeat("\x02\x01\x05", 999) + "\x01\x05", 1001},
	} {
		b, k, ok := impl.ReadTerm(impl.Arena{}, c.text)
		if c.nodes == 0 {
			checkNotRead(t, impl.Arena{}, c.text)
			continue
		}
		if !ok || k != c.nodes-1 || len(b.Nodes) != c.nodes {
			t.Fatalf("ReadTerm of %d nodes: %d nodes, %d, %v", c.size, len(b.Nodes), k, ok)
		}
		checkSize(t, b, k, c.size)
		checkText(t, b, k, c.text, true)
	}
}

func TestP3ReadTermRoom(t *testing.T) {
	for _, n := range []int{impl.MaxNodes - 2, impl.MaxNodes - 1, impl.MaxNodes, impl.MaxNodes + 1, impl.MaxNodes + 500} {
		a := atomsArena(n)
		last := "\x03\x01" + plainVar(n-1)
		for _, c := range []struct {
			text    string
			missing []impl.Node
			at      int
		}{
			{"\x01\x00", nil, 0},
			{"\x01" + plainVar(n-1), nil, n - 1},
			{last, []impl.Node{hashNode(n - 1)}, n},
			{"\x03" + last, []impl.Node{hashNode(n - 1), hashNode(n)}, n + 1},
			{"\x03\x03" + last, []impl.Node{hashNode(n - 1), hashNode(n), hashNode(n + 1)}, n + 2},
			{"\x02\x01\x09\x01" + plainVar(70000), []impl.Node{atomNode(70000), pairNode(9, n)}, n + 1},
			{"\x02\x01\x09\x01\x09", []impl.Node{pairNode(9, 9)}, n},
		} {
			if len(c.missing) > 0 && n+len(c.missing) > impl.MaxNodes {
				checkNotRead(t, a, c.text)
				continue
			}
			want := append(slices.Clone(a.Nodes), c.missing...)
			checkRead(t, a, c.text, want, c.at, true)
		}
	}
}

// Behind a node that is not right no term has a text; ahead of it terms are read as ever.
func TestP3ReadTermIntoWrongArenas(t *testing.T) {
	for _, wrong := range []impl.Node{{}, {Kind: 10, A: 1}, atomNode(-1), atomNode(1000000), hashNode(9), hashNode(-1), pairNode(0, 9), {Kind: impl.TmHash, B: 1}} {
		a := arenaOf(atomNode(7), hashNode(0), wrong, atomNode(8), hashNode(3))
		checkRead(t, a, "\x01\x07", a.Nodes, 0, true)
		checkRead(t, a, "\x03\x01\x07", a.Nodes, 1, true)
		for _, text := range []string{"\x01\x08", "\x03\x01\x08", "\x01\x09", "\x06\x01\x07", "\x03\x03\x01\x07", "\x02\x01\x07\x01\x08"} {
			checkNotRead(t, a, text)
		}
		checkNotRead(t, arenaOf(wrong), "\x01\x07")
		checkNotRead(t, arenaOf(wrong, atomNode(7)), "\x01\x07")
	}
}

// Of nodes that are there twice the first one counts, as it does for Put.
func TestP3ReadTermWithNodesTwice(t *testing.T) {
	a := arenaOf(atomNode(7), atomNode(7), hashNode(0), hashNode(0), atomNode(8))
	checkRead(t, a, "\x01\x07", a.Nodes, 0, true)
	checkRead(t, a, "\x03\x01\x07", a.Nodes, 2, true)
	checkRead(t, a, "\x02\x01\x07\x03\x01\x07", append(slices.Clone(a.Nodes), pairNode(0, 2)), 5, true)
	for k, want := range []string{"\x01\x07", "\x01\x07", "\x03\x01\x07", "\x03\x01\x07", "\x01\x08"} {
		checkText(t, a, k, want, true)
		checkSize(t, a, k, len(want)-1)
	}
	later := arenaOf(atomNode(7), atomNode(7), hashNode(1), hashNode(0))
	checkRead(t, later, "\x03\x01\x07", later.Nodes, 3, true)
}

func drawTree(draw *rand.Rand, size int, nums []int) *tree {
	if size <= 1 {
		return atomTree(nums[draw.Intn(len(nums))])
	}
	if draw.Intn(3) == 0 {
		return treeOf(oneKinds[draw.Intn(len(oneKinds))], drawTree(draw, size-1, nums))
	}
	left := draw.Intn(size)
	return treeOf(twoKinds[draw.Intn(len(twoKinds))], drawTree(draw, left, nums), drawTree(draw, size-1-left, nums))
}

// Drawn terms, one behind the other in one arena: each comes back from its text, there and elsewhere.
func TestP3DrawnTermsComeBack(t *testing.T) {
	draw := rand.New(rand.NewSource(4))
	for range 60 {
		var a impl.Arena
		for range 25 {
			x := drawTree(draw, 1+draw.Intn(60), []int{0, 1, 127, 128, 999999})
			text := treeText(x)
			want, wantK := putTree(a.Nodes, x)
			checkRead(t, a, text, want, wantK, true)
			a = arenaOf(want...)
			checkSize(t, a, wantK, treeSize(x))
			checkText(t, a, wantK, text, true)
			checkRead(t, a, text, want, wantK, true)
			alone, aloneK := putTree(nil, x)
			checkRead(t, impl.Arena{}, text, alone, aloneK, true)
		}
		if !impl.ArenaOk(a) {
			t.Fatal("what is read makes an arena that is not right")
		}
	}
}

func plainArenaOk(nodes []impl.Node) bool {
	for k := range nodes {
		if !plainNodeOk(nodes, k) || slices.Contains(nodes[:k], nodes[k]) {
			return false
		}
	}
	return len(nodes) <= 3000
}

func drawNode(draw *rand.Rand, k int) impl.Node {
	n := impl.Node{Kind: 1 + draw.Intn(9)}
	switch partsOfKind(n.Kind) {
	case 0:
		n.Num = draw.Intn(3)
	case 1:
		n.A = draw.Intn(k + 1)
	default:
		n.A, n.B = draw.Intn(k+1), draw.Intn(k+1)
	}
	if draw.Intn(30) == 0 {
		n = impl.Node{Kind: draw.Intn(12), Num: draw.Intn(3) - 1, A: draw.Intn(k+2) - 1, B: draw.Intn(k+2) - 1}
	}
	return n
}

// drawNodes are fewer nodes than below tells, drawn one by one, each mostly of those ahead of it.
func drawNodes(draw *rand.Rand, below int, one func(draw *rand.Rand, k int) impl.Node) []impl.Node {
	var nodes []impl.Node
	for k := range draw.Intn(below) {
		nodes = append(nodes, one(draw, max(k-1, 0)))
	}
	return nodes
}

// Drawn arenas, most of them not right: every function answers as the plain way does.
func TestP3DrawnArenas(t *testing.T) {
	draw := rand.New(rand.NewSource(5))
	for range 20000 {
		nodes := drawNodes(draw, 9, drawNode)
		a := arenaOf(nodes...)
		if got, want := impl.ArenaOk(a), plainArenaOk(nodes); got != want {
			t.Errorf("ArenaOk(%v) = %v; want %v", nodes, got, want)
		}
		n := drawNode(draw, len(nodes))
		want, wantK := plainPut(nodes, n)
		checkPut(t, a, n, want, wantK)
		x := drawTree(draw, 1+draw.Intn(6), []int{0, 1, 2})
		want, wantK, wantOk := plainRead(nodes, treeText(x))
		checkRead(t, a, treeText(x), want, wantK, wantOk)
		for k := -1; k <= len(nodes); k++ {
			checkDrawnPlace(t, a, k)
		}
	}
}

func checkDrawnPlace(t *testing.T, a impl.Arena, k int) {
	t.Helper()
	if got, want := impl.NodeOk(a, k), plainNodeOk(a.Nodes, k); got != want {
		t.Errorf("NodeOk(%v, %d) = %v; want %v", a, k, got, want)
	}
	x := treeAt(a.Nodes, k)
	if x == nil {
		checkSize(t, a, k, 0)
		checkText(t, a, k, "", false)
		return
	}
	checkSize(t, a, k, treeSize(x))
	checkText(t, a, k, treeText(x), true)
	want, wantK, wantOk := plainRead(a.Nodes, treeText(x))
	checkRead(t, a, treeText(x), want, wantK, wantOk)
}

// Every answer is changed all over; the argument and the spare room behind it stay as they are, and so does the next answer.
func TestP3AnswersAreNewMemory(t *testing.T) {
	first := []impl.Node{atomNode(7), hashNode(0), atomNode(8)}
	spare := impl.Node{Kind: 55, Num: 55, A: 55, B: 55}
	room := append(slices.Clone(first), spare, spare, spare)
	a := impl.Arena{Nodes: room[:3]}
	spoil := func(b impl.Arena) {
		nodes := b.Nodes[:cap(b.Nodes)]
		for i := range nodes {
			nodes[i] = impl.Node{Kind: -9}
		}
	}
	for range 2 {
		impl.NodeOk(a, 2)
		impl.ArenaOk(a)
		impl.SizeOf(a, 2)
		impl.TermText(a, 2)
		for _, n := range []impl.Node{atomNode(7), atomNode(9), hashNode(1), hashNode(3), {}} {
			b, _ := impl.Put(a, n)
			spoil(b)
		}
		for _, text := range []string{"\x01\x07", "\x01\x09", "\x03\x03\x01\x07", "\x02\x01\x08\x01\x09", "", "\x03", "\x01\x09\x00", "\x02\x01\x09\x00"} {
			b, _, _ := impl.ReadTerm(a, text)
			spoil(b)
		}
		if !slices.Equal(room, append(slices.Clone(first), spare, spare, spare)) {
			t.Fatalf("the argument, or the room behind it, became %v", room)
		}
	}
	checkPut(t, a, hashNode(2), append(slices.Clone(first), hashNode(2)), 3)
	checkRead(t, a, "\x03\x01\x08", append(slices.Clone(first), hashNode(2)), 3, true)
}
