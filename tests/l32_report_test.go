package tests

import (
	"fmt"
	"math"
	"math/rand"
	"slices"
	"strings"
	"testing"

	"loop.example/g00466/impl"
)

func plainShowTree(x *tree) string {
	if x.kind == impl.TmAtom {
		return fmt.Sprintf("a%d", x.num)
	}
	var parts []string
	for _, p := range x.parts {
		parts = append(parts, plainShowTree(p))
	}
	letter := map[int]string{impl.TmPair: "p", impl.TmHash: "h", impl.TmKdf: "k", impl.TmSeal: "s", impl.TmPub: "u", impl.TmDh: "d", impl.TmSign: "g", impl.TmMac: "m"}[x.kind]
	return letter + "(" + strings.Join(parts, ",") + ")"
}

func plainShowClient(c impl.Client) string {
	state := "?"
	if isWithin(c.State, 0, 4) {
		state = []string{"idle", "hello", "who", "open", "failed"}[c.State]
	}
	return fmt.Sprintf("client %d %s %d\n", max(0, c.Name), state, max(0, c.Lease))
}

func plainShowGate(g impl.Gate) string {
	open := 0
	for _, s := range g.Sesss {
		if s.State == impl.GtOpen {
			open++
		}
	}
	told := fmt.Sprintf("gate %d open %d drops %d\n", len(g.Sesss), open, max(0, g.Drops))
	for _, o := range g.Outs {
		told += fmt.Sprintf("out %d %d %d %d\n", max(0, o.Route), max(0, o.Packet.Src), max(0, o.Packet.Dst), max(0, o.Packet.Val))
	}
	return told
}

func plainShowWorld(w impl.World) string {
	told := ""
	for _, c := range w.Clients {
		told += plainShowClient(c)
	}
	return told + plainShowGate(w.Gate) + fmt.Sprintf("got %d\n", len(w.Got))
}

func checkShow(t *testing.T, what string, got, want string) {
	t.Helper()
	if got != want {
		t.Fatalf("%s is told as %q; want %q", what, brief(got), brief(want))
	}
}

func checkShowTerm(t *testing.T, nodes []impl.Node, k int, want string) {
	t.Helper()
	checkShow(t, fmt.Sprintf("the term %d of %s", k, brief(nodes)), impl.ShowTerm(arenaOf(nodes...), k), want)
}

func TestP32EachKind(t *testing.T) {
	nodes := []impl.Node{atomNode(7), pairNode(0, 0), hashNode(1), kdfNode(0, 2), sealNode(3, 0), pubNode(0), dhNode(0, 5), signNode(0, 5), macNode(6, 7), atomNode(999999), atomNode(0)}
	for k, want := range []string{"a7", "p(a7,a7)", "h(p(a7,a7))", "k(a7,h(p(a7,a7)))", "s(k(a7,h(p(a7,a7))),a7)", "u(a7)", "d(a7,u(a7))", "g(a7,u(a7))", "m(d(a7,u(a7)),g(a7,u(a7)))", "a999999", "a0"} {
		checkShowTerm(t, nodes, k, want)
	}
	for _, k := range []int{-1, 11, 12, math.MinInt, math.MaxInt} {
		checkShowTerm(t, nodes, k, "")
	}
	checkShowTerm(t, nil, 0, "")
}

// A term of SizeOf 2000 is told, one of more is not; what stands behind a node that is not right is not either.
func TestP32GreatTerms(t *testing.T) {
	for _, size := range []int{1, 2, 999, 1999, 2000} {
		a := arenaOfSize(size)
		last := len(a.Nodes) - 1
		checkShowTerm(t, a.Nodes, last, plainShowTree(treeAt(a.Nodes, last)))
	}
	for _, size := range []int{2001, 2002, 4001, 100000, 100001, 1<<62 - 1} {
		a := arenaOfSize(size)
		checkShowTerm(t, a.Nodes, len(a.Nodes)-1, "")
	}
	chain := []impl.Node{atomNode(3)}
	for k := range 2999 {
		chain = append(chain, hashNode(k))
	}
	checkShowTerm(t, chain, 1999, strings.Repeat("h(", 1999)+"a3"+strings.Repeat(")", 1999))
	checkShowTerm(t, chain, 2000, "")
	checkShowTerm(t, chain, 2999, "")
	for _, wrong := range []impl.Node{{}, {Kind: 10}, {Kind: -1}, atomNode(-1), atomNode(1000000), hashNode(2), hashNode(-1), pairNode(0, 9), {Kind: impl.TmHash, A: 0, B: 1}, {Kind: impl.TmAtom, Num: 1, A: 1}, {Kind: impl.TmPair, Num: 1}, {Kind: math.MaxInt}, {Kind: math.MinInt}} {
		nodes := []impl.Node{atomNode(1), hashNode(0), wrong, atomNode(2)}
		for k, want := range []string{"a1", "h(a1)", "", ""} {
			checkShowTerm(t, nodes, k, want)
		}
	}
}

func TestP32DrawnTerms(t *testing.T) {
	draw := rand.New(rand.NewSource(84))
	for range 5000 {
		nodes := drawNodes(draw, 9, drawNode)
		for k := -1; k <= len(nodes); k++ {
			want := ""
			if x := treeAt(nodes, k); x != nil {
				want = plainShowTree(x)
			}
			checkShowTerm(t, nodes, k, want)
		}
	}
}

func TestP32Clients(t *testing.T) {
	for state, name := range map[int]string{0: "idle", 1: "hello", 2: "who", 3: "open", 4: "failed", -1: "?", 5: "?", 1 << 32: "?", math.MinInt: "?", math.MaxInt: "?"} {
		checkShow(t, "a client", impl.ShowClient(impl.Client{Name: 4, State: state, Lease: 12, Draw: 99, Gate: 9, Mode: 2, Tries: 3}), "client 4 "+name+" 12\n")
	}
	for n, want := range map[int]string{0: "0", 1: "1", -1: "0", math.MinInt: "0", math.MaxInt: "9223372036854775807", 1000000001: "1000000001"} {
		checkShow(t, "a client", impl.ShowClient(impl.Client{Name: n, State: 3, Lease: 7}), "client "+want+" open 7\n")
		checkShow(t, "a client", impl.ShowClient(impl.Client{Name: 7, State: 3, Lease: n}), "client 7 open "+want+"\n")
	}
	checkShow(t, "nobody", impl.ShowClient(impl.Client{}), "client 0 idle 0\n")
}

func TestP32Gates(t *testing.T) {
	checkShow(t, "a gate", impl.ShowGate(impl.Gate{}), "gate 0 open 0 drops 0\n")
	checkShow(t, "a gate", impl.ShowGate(impl.Gate{Name: 9, Next: 7, Drops: 5, Sesss: []impl.Sess{{State: 2}, {State: 1}, {State: 2}, {}, {State: 3}, {State: -2}}}), "gate 6 open 2 drops 5\n")
	out := impl.Out{Route: 2, Packet: packetOf(10, 20, 3, 999)}
	checkShow(t, "a gate", impl.ShowGate(impl.Gate{Drops: 1, Outs: []impl.Out{out, {}, out}}), "gate 0 open 0 drops 1\nout 2 10 20 999\nout 0 0 0 0\nout 2 10 20 999\n")
	for n, want := range map[int]string{-1: "0", math.MinInt: "0", math.MaxInt: "9223372036854775807"} {
		checkShow(t, "a gate", impl.ShowGate(impl.Gate{Drops: n}), "gate 0 open 0 drops "+want+"\n")
		checkShow(t, "a gate", impl.ShowGate(impl.Gate{Outs: []impl.Out{{Route: n, Packet: packetOf(1, 2, 3, 4)}, {Route: 9, Packet: packetOf(n, n, n, n)}}}), "gate 0 open 0 drops 0\nout "+want+" 1 2 4\nout 9 "+want+" "+want+" "+want+"\n")
	}
	many := impl.Gate{Sesss: make([]impl.Sess, 3000), Outs: slices.Repeat([]impl.Out{out}, 3000)}
	checkShow(t, "a gate", impl.ShowGate(many), "gate 3000 open 0 drops 0\n"+strings.Repeat("out 2 10 20 999\n", 3000))
}

// A report tells what there is, in drawn lives, too.
func TestP32Worlds(t *testing.T) {
	checkShow(t, "no world", impl.ShowWorld(impl.World{}), "gate 0 open 0 drops 0\ngot 0\n")
	for _, mode := range bothModes {
		w := impl.WorldNew(mode, twoRoutes)
		checkShow(t, "a new world", impl.ShowWorld(w), "client 1 idle 0\nclient 2 idle 0\ngate 0 open 0 drops 0\ngot 0\n")
		checkShow(t, "a world", impl.ShowWorld(talkedWorld(t, mode)), "client 1 open 10\nclient 2 open 11\ngate 2 open 2 drops 1\nout 2 10 20 20\nout 5 11 34 34\ngot 5\n")
	}
	draw := rand.New(rand.NewSource(85))
	var all strings.Builder
	for life := range 40 {
		w := impl.WorldNew(1+life%2, twoRoutes)
		if life%3 == 0 {
			w = openWorld(t, 1+life%2)
		}
		for range 40 {
			w = impl.StepWorld(w, drawEvent(draw, w))
			got := impl.ShowWorld(w)
			checkShow(t, "a world", got, plainShowWorld(w))
			all.WriteString(got)
			for _, c := range w.Clients {
				checkShow(t, "a client", impl.ShowClient(c), plainShowClient(c))
			}
			checkShow(t, "a gate", impl.ShowGate(w.Gate), plainShowGate(w.Gate))
		}
	}
	for _, part := range []string{" idle ", " hello ", " who ", " open 10\n", " open 11\n", "gate 1 open 0", "gate 1 open 1", "gate 2 open 2", "drops 1\n", "out 2 10 ", "out 5 11 ", "got 1\n"} {
		if !strings.Contains(all.String(), part) {
			t.Errorf("in no life %q is told", part)
		}
	}
	w := impl.World{Clients: []impl.Client{{Name: 3, State: 4}, {Name: -3, State: 9}, {}}, Got: make([]impl.Note, 1200)}
	checkShow(t, "a world", impl.ShowWorld(w), "client 3 failed 0\nclient 0 ? 0\nclient 0 idle 0\ngate 0 open 0 drops 0\ngot 1200\n")
}

func TestP32NothingIsChanged(t *testing.T) {
	roomy, isAsItWas := roomyWorld(talkedWorld(t, impl.MdPsk))
	impl.ShowWorld(roomy)
	impl.ShowGate(roomy.Gate)
	for k := range roomy.Arena.Nodes {
		impl.ShowTerm(roomy.Arena, k)
	}
	if !isAsItWas() {
		t.Error("an argument was changed")
	}
}
