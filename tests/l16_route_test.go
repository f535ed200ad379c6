package tests

import (
	"fmt"
	"math"
	"math/rand"
	"slices"
	"testing"

	"loop.example/g00466/impl"
)

func packetOf(src, dst, hops, val int) impl.Packet {
	return impl.Packet{Src: src, Dst: dst, Hops: hops, Val: val}
}

func routeOf(net, bits, to int) impl.Route { return impl.Route{Net: net, Bits: bits, To: to} }

func isWithin(n, least, most int) bool { return least <= n && n <= most }

func plainPacketOk(p impl.Packet) bool {
	return isWithin(p.Src, 0, 255) && isWithin(p.Dst, 0, 255) && isWithin(p.Hops, 1, 9) && isWithin(p.Val, 0, 999)
}

func packetCall(p impl.Packet) secretCall {
	return secretCall{fmt.Sprintf("PacketTerm(.., %v)", p),
		func(a impl.Arena) (impl.Arena, int) { return impl.PacketTerm(a, p) },
		func(nodes []impl.Node) ([]impl.Node, int) {
			if !plainPacketOk(p) {
				return nodes, -1
			}
			return plainWords(nodes, []int{90, p.Src, p.Dst, p.Hops, p.Val, p.Src + p.Dst + p.Hops + p.Val})
		}}
}

// packetTold is what PacketIn answers.
type packetTold struct {
	packet impl.Packet
	ok     bool
}

func plainPacketIn(nodes []impl.Node, k int) packetTold {
	parts, ok := plainParts(nodes, k, 6)
	if !ok {
		return packetTold{}
	}
	var nums []int
	for _, part := range parts {
		n, is := plainNum(nodes, part)
		if !is {
			return packetTold{}
		}
		nums = append(nums, n)
	}
	p := packetOf(nums[1], nums[2], nums[3], nums[4])
	if nums[0] != 90 || nums[5] != nums[1]+nums[2]+nums[3]+nums[4] || !plainPacketOk(p) {
		return packetTold{}
	}
	return packetTold{p, true}
}

func plainRouteOk(r impl.Route) bool {
	multiples := map[int]int{0: 256, 1: 128, 2: 64, 3: 32, 4: 16, 5: 8, 6: 4, 7: 2, 8: 1}
	of, is := multiples[r.Bits]
	return is && isWithin(r.Net, 0, 255) && r.Net%of == 0 && isWithin(r.To, 0, 9)
}

func plainRoutesOk(list []impl.Route) bool {
	ways := map[[2]int]int{}
	for _, r := range list {
		ways[[2]int{r.Net, r.Bits}]++
		if !plainRouteOk(r) || ways[[2]int{r.Net, r.Bits}] > 1 {
			return false
		}
	}
	return len(list) <= 8
}

// plainFits holds the first figures of both, written with eight of them, against each other; what is not in 0 .. 255 can't be so written.
func plainFits(r impl.Route, dst int) bool {
	if !isWithin(r.Bits, 0, 8) || !isWithin(dst, 0, 255) || !isWithin(r.Net, 0, 255) {
		return false
	}
	return fmt.Sprintf("%08b", dst)[:r.Bits] == fmt.Sprintf("%08b", r.Net)[:r.Bits]
}

// routeTold is what RouteOf answers.
type routeTold struct {
	route impl.Route
	ok    bool
}

func plainRouteOf(list []impl.Route, dst int) routeTold {
	for bits := 8; bits >= 0; bits-- {
		for _, r := range list {
			if r.Bits == bits && plainFits(r, dst) {
				return routeTold{r, true}
			}
		}
	}
	return routeTold{}
}

func checkPacketOk(t *testing.T, p impl.Packet, want bool) {
	t.Helper()
	if got := impl.PacketOk(p); got != want {
		t.Fatalf("PacketOk(%v) = %v; want %v", p, got, want)
	}
}

func checkPacketIn(t *testing.T, nodes []impl.Node, k int, want packetTold) {
	t.Helper()
	p, ok := impl.PacketIn(arenaOf(nodes...), k)
	if got := (packetTold{p, ok}); got != want {
		t.Fatalf("PacketIn(%s of %d nodes, %d) = %v; want %v", brief(nodes), len(nodes), k, got, want)
	}
}

// checkPackets asks for these packets by their places: every other place of the arena, and those beside it, tell none.
func checkPackets(t *testing.T, nodes []impl.Node, packets map[int]impl.Packet) {
	t.Helper()
	for k := -2; k <= len(nodes)+2; k++ {
		p, is := packets[k]
		checkPacketIn(t, nodes, k, packetTold{p, is})
	}
}

func checkOnePacket(t *testing.T, nodes []impl.Node, k int, p impl.Packet) {
	t.Helper()
	checkPackets(t, nodes, map[int]impl.Packet{k: p})
}

func checkNoPacket(t *testing.T, nodes []impl.Node) {
	t.Helper()
	checkPackets(t, nodes, nil)
}

func checkPacketsPlain(t *testing.T, nodes []impl.Node) {
	t.Helper()
	for k := -1; k <= len(nodes)+1; k++ {
		checkPacketIn(t, nodes, k, plainPacketIn(nodes, k))
	}
}

func checkRoutesOk(t *testing.T, want bool, list ...impl.Route) {
	t.Helper()
	if got := impl.RoutesOk(list); got != want {
		t.Fatalf("RoutesOk(%s of %d) = %v; want %v", brief(list), len(list), got, want)
	}
}

func checkFits(t *testing.T, r impl.Route, dst int, want bool) {
	t.Helper()
	if got := impl.FitsRoute(r, dst); got != want {
		t.Fatalf("FitsRoute(%v, %d) = %v; want %v", r, dst, got, want)
	}
}

func checkRouteOf(t *testing.T, list []impl.Route, dst int, want routeTold) {
	t.Helper()
	r, ok := impl.RouteOf(list, dst)
	if got := (routeTold{r, ok}); got != want {
		t.Fatalf("RouteOf(%s of %d, %d) = %v; want %v", brief(list), len(list), dst, got, want)
	}
}

// packetCases are packets, and what they bring behind the three secrets.
func packetCases() []secretCase {
	of := func(p impl.Packet, brings ...impl.Node) secretCase { return secretCase{packetCall(p), brings} }
	return []secretCase{
		of(packetOf(10, 20, 3, 7), atomNode(90), atomNode(10), atomNode(20), atomNode(3), atomNode(7), atomNode(40), atomNode(0), pairNode(8, 9), pairNode(7, 10), pairNode(6, 11), pairNode(5, 12), pairNode(4, 13), pairNode(3, 14)),
		of(packetOf(20, 10, 7, 3), atomNode(90), atomNode(20), atomNode(10), atomNode(7), atomNode(3), atomNode(40), atomNode(0), pairNode(8, 9), pairNode(7, 10), pairNode(6, 11), pairNode(5, 12), pairNode(4, 13), pairNode(3, 14)),
		of(packetOf(255, 255, 9, 999), atomNode(90), atomNode(255), atomNode(9), atomNode(999), atomNode(1518), atomNode(0), pairNode(7, 8), pairNode(6, 9), pairNode(5, 10), pairNode(4, 11), pairNode(4, 12), pairNode(3, 13)),
		of(packetOf(0, 0, 1, 0), atomNode(90), atomNode(0), atomNode(1), pairNode(5, 4), pairNode(4, 6), pairNode(5, 7), pairNode(4, 8), pairNode(4, 9), pairNode(3, 10)),
		of(packetOf(90, 90, 1, 90), atomNode(90), atomNode(1), atomNode(271), atomNode(0), pairNode(5, 6), pairNode(3, 7), pairNode(4, 8), pairNode(3, 9), pairNode(3, 10), pairNode(3, 11)),
		of(packetOf(0, 81, 9, 0), atomNode(90), atomNode(0), atomNode(81), atomNode(9), pairNode(3, 4), pairNode(4, 7), pairNode(6, 8), pairNode(5, 9), pairNode(4, 10), pairNode(3, 11)),
		of(packetOf(1, 1, 1, 998), atomNode(90), atomNode(1), atomNode(998), atomNode(0), pairNode(1, 6), pairNode(5, 7), pairNode(4, 8), pairNode(4, 9), pairNode(4, 10), pairNode(3, 11)),
	}
}

func TestP16TermsNodeByNode(t *testing.T) {
	for _, c := range packetCases() {
		checkNodeByNode(t, c)
	}
}

// In an arena of nothing, and among others that are not what a packet is made of.
func TestP16AmongOthers(t *testing.T) {
	want := []impl.Node{atomNode(90), atomNode(10), atomNode(20), atomNode(3), atomNode(7), atomNode(40), atomNode(0), pairNode(5, 6), pairNode(4, 7), pairNode(3, 8), pairNode(2, 9), pairNode(1, 10), pairNode(0, 11)}
	for there := range len(want) + 1 {
		checkSecret(t, want[:there], packetCall(packetOf(10, 20, 3, 7)), want, 12)
	}
	checkOnePacket(t, want, 12, packetOf(10, 20, 3, 7))
	others := []impl.Node{atomNode(89), atomNode(91), atomNode(2), atomNode(100), pairNode(0, 1), pairNode(2, 2), hashNode(0), sealNode(0, 1)}
	for _, c := range packetCases() {
		checkAmong(t, c, others...)
	}
}

// Some are there already, in another order than they would be made in.
func TestP16SomeAreThere(t *testing.T) {
	nodes := []impl.Node{atomNode(0), atomNode(40), pairNode(1, 0), atomNode(7), pairNode(3, 2), atomNode(20), atomNode(90)}
	want := slices.Concat(nodes, []impl.Node{atomNode(10), atomNode(3), pairNode(8, 4), pairNode(5, 9), pairNode(7, 10), pairNode(6, 11)})
	checkSecret(t, nodes, packetCall(packetOf(10, 20, 3, 7)), want, 12)
	checkOnePacket(t, want, 12, packetOf(10, 20, 3, 7))
	for _, c := range packetCases() {
		for _, first := range []impl.Node{atomNode(0), atomNode(1), atomNode(10), atomNode(90), atomNode(255), pubNode(0)} {
			nodes := slices.Concat(threeSecrets, []impl.Node{first})
			checkPlain(t, nodes, c.call)
			checkPlain(t, slices.Concat(nodes, []impl.Node{pairNode(3, 3), pairNode(3, 4)}), c.call)
		}
	}
}

// Packets come back from their terms, at their own places and nowhere else.
func TestP16PacketsComeBack(t *testing.T) {
	for _, src := range []int{0, 1, 90, 254, 255} {
		for _, dst := range []int{0, 1, 90, 254, 255} {
			for _, hops := range []int{1, 2, 8, 9} {
				for _, val := range []int{0, 1, 90, 998, 999} {
					p := packetOf(src, dst, hops, val)
					checkPacketOk(t, p, true)
					nodes, k := mustWords(t, threeSecrets, packetCall(p))
					checkOnePacket(t, nodes, k, p)
					checkSecret(t, nodes, packetCall(p), nodes, k)
				}
			}
		}
	}
	// Many in one arena.
	var nodes []impl.Node
	packets := map[int]impl.Packet{}
	for i := range 60 {
		p := packetOf(i%256, (i*7)%256, 1+i%9, (i*13)%1000)
		var k int
		nodes, k = mustWords(t, nodes, packetCall(p))
		packets[k] = p
	}
	if len(packets) != 60 || !impl.ArenaOk(arenaOf(nodes...)) {
		t.Fatalf("%d packets in %v", len(packets), nodes)
	}
	checkPackets(t, nodes, packets)
}

// wrongPackets have one number that is past its limit.
func wrongPackets() []impl.Packet {
	var wrong []impl.Packet
	far := []int{-1, -2, 1000000, 1 << 32, 1<<32 + 5, math.MinInt, math.MaxInt}
	for _, n := range append(far, 256, 257) {
		wrong = append(wrong, packetOf(n, 20, 3, 7), packetOf(10, n, 3, 7))
	}
	for _, n := range append(far, 0, 10, 11) {
		wrong = append(wrong, packetOf(10, 20, n, 7))
	}
	for _, n := range append(far, 1000, 1001) {
		wrong = append(wrong, packetOf(10, 20, 3, n))
	}
	return append(wrong, impl.Packet{}, packetOf(256, 256, 10, 1000), packetOf(math.MaxInt, math.MaxInt, 1, 0))
}

func TestP16PacketsThatAreNotRight(t *testing.T) {
	for _, p := range wrongPackets() {
		checkPacketOk(t, p, false)
		for _, nodes := range [][]impl.Node{nil, threeSecrets, {atomNode(90), atomNode(0)}} {
			checkRefused(t, nodes, packetCall(p))
		}
		// The List that would be its term tells none.
		if nodes, k := plainWords(nil, []int{90, p.Src, p.Dst, p.Hops, p.Val, p.Src + p.Dst + p.Hops + p.Val}); k >= 0 {
			checkNoPacket(t, nodes)
		}
	}
}

// A List of six with another number at any of its places, of another length, or with another end.
func TestP16ListsThatAreOthers(t *testing.T) {
	right := []int{90, 10, 20, 3, 7, 40}
	for at := range right {
		for _, more := range []int{-1, 1, 50, 900000} {
			nums := slices.Clone(right)
			nums[at] += more
			if nodes, k := plainWords(nil, nums); k >= 0 {
				checkNoPacket(t, nodes)
			}
		}
		checkNoPacket(t, listOf(slices.Delete(slices.Clone(right), at, at+1)...))
		for _, n := range []int{right[at], 0} { // behind the first one; the List behind it is the packet
			nodes := listOf(slices.Insert(slices.Clone(right), at, n)...)
			checkPacketIn(t, nodes, len(nodes)-1, packetTold{})
			checkPacketsPlain(t, nodes)
		}
	}
	checkNoPacket(t, listOf(append(slices.Clone(right), 0)...))
	checkNoPacket(t, listOf(append(slices.Clone(right), 40)...))
	for _, nums := range [][]int{{90, 20, 10, 7, 3, 40}, {90, 11, 19, 3, 7, 40}, {90, 10, 20, 4, 6, 40}} { // as much in all: others, and right
		nodes := listOf(nums...)
		checkOnePacket(t, nodes, len(nodes)-1, packetOf(nums[1], nums[2], nums[3], nums[4]))
	}
	nodes := listOf(right...)
	end := len(nodes) - 1
	for at := 6; at <= end; at++ { // the end, and the pairs
		for _, n := range []impl.Node{atomNode(1), hashNode(0), pairNode(0, 1), sealNode(0, 1), pubNode(2), pairNode(at-1, 0)} {
			other := slices.Clone(nodes)
			other[at] = n
			checkPacketsPlain(t, other)
			checkPacketIn(t, other, end, packetTold{})
		}
	}
	for at := range 6 { // terms that are no Atoms
		m := makerOf(listOf(right...))
		list := fromTo(0, 5)
		list[at] = m.put(hashNode(at))
		checkPacketIn(t, m.nodes, m.list(list...), packetTold{})
		list[at] = end
		checkPacketIn(t, m.nodes, m.list(list...), packetTold{})
		checkPacketIn(t, m.nodes, end, packetTold{packetOf(10, 20, 3, 7), true})
	}
	m := makerOf(nodes)
	for _, k := range []int{m.put(hashNode(end)), m.put(pairNode(end, end)), m.put(sealNode(end, end)), m.put(pairNode(0, end)), m.list(end), m.put(kdfNode(nodes[end].A, nodes[end].B))} {
		checkPacketIn(t, m.nodes, k, packetTold{})
	}
}

// listOf is a List of Atoms, alone.
func listOf(nums ...int) []impl.Node {
	nodes, _ := plainWords(nil, nums)
	return nodes
}

func TestP16PlacesThatAreNone(t *testing.T) {
	nodes := listOf(90, 10, 20, 3, 7, 40)
	for _, k := range slices.Concat(outside, []int{len(nodes), len(nodes) + 1}) {
		checkPacketIn(t, nodes, k, packetTold{})
		checkPacketIn(t, nil, k, packetTold{})
	}
	checkNoPacket(t, nil)
	checkNoPacket(t, threeSecrets)
}

func TestP16Room(t *testing.T) {
	for _, c := range packetCases() {
		checkRoom(t, c)
	}
}

// A packet at the very end of a full arena, and in one that is too long, comes back: it needs no room.
func TestP16FullArena(t *testing.T) {
	p := packetOf(10, 20, 3, 7)
	checkRefused(t, fullBut(12), packetCall(p))
	nodes, k := mustWords(t, fullBut(13), packetCall(p))
	if len(nodes) != impl.MaxNodes || k != impl.MaxNodes-1 {
		t.Fatalf("a packet at %d of %d nodes", k, len(nodes))
	}
	for _, has := range [][]impl.Node{nodes, slices.Concat(nodes, []impl.Node{hashNode(0), hashNode(1)})} {
		checkSecret(t, has, packetCall(p), has, k)
		checkPacketIn(t, has, k, packetTold{p, true})
		checkPacketIn(t, has, k-1, packetTold{})
		checkPacketIn(t, has, k+1, packetTold{})
		checkRefused(t, has, packetCall(packetOf(10, 20, 3, 8)), packetCall(packetOf(20, 10, 3, 7)), packetCall(packetOf(10, 20, 3, -1)))
	}
}

// A node that would be right nowhere, wherever it stands: behind the packet alone it does no harm.
func TestP16WrongNodes(t *testing.T) {
	p := packetOf(10, 20, 3, 7)
	right := listOf(90, 10, 20, 3, 7, 40)
	for _, wrong := range wrongNodes {
		for at := range right {
			nodes := slices.Clone(right)
			nodes[at] = wrong
			checkNoPacket(t, nodes)
			checkPlain(t, nodes, packetCall(p), packetCall(packetOf(0, 0, 1, 0)), packetCall(packetOf(0, 0, 0, 0)))
		}
		behind := slices.Concat(right, []impl.Node{wrong})
		checkOnePacket(t, behind, len(right)-1, p)
		checkSecret(t, behind, packetCall(p), behind, len(right)-1)
		ahead := slices.Concat([]impl.Node{wrong}, right)
		for i := 1; i < len(ahead); i++ {
			moveOn(&ahead[i], 0)
		}
		checkPacketsPlain(t, ahead)
		checkPlain(t, ahead, packetCall(p))
	}
}

// Nodes that are there twice: what is read may be of either. In any other order what stands ahead of what it has is not read.
func TestP16DrawnOrders(t *testing.T) {
	draw := rand.New(rand.NewSource(34))
	p := packetOf(10, 20, 3, 7)
	for range 2000 {
		base := listOf(90, 10, 20, 3, 7, 40)
		if draw.Intn(2) == 0 {
			base = append(base, base[draw.Intn(len(base))])
		}
		places := everyPlace(len(base))
		if draw.Intn(2) == 0 {
			places = drawPlaces(draw, len(base))
		} else {
			x, y := draw.Intn(len(base)), draw.Intn(len(base))
			places[x], places[y] = places[y], places[x]
		}
		nodes := moved(base, places)
		checkPacketsPlain(t, nodes)
		checkPlain(t, nodes, packetCall(p))
	}
	right := listOf(90, 10, 20, 3, 7, 40)
	twice := slices.Concat(right, []impl.Node{right[12], atomNode(90), pairNode(14, 11)})
	checkPackets(t, twice, map[int]impl.Packet{12: p, 13: p, 15: p})
}

// drawPacketNode is often one of those of which packets are made.
func drawPacketNode(draw *rand.Rand, k int) impl.Node {
	switch draw.Intn(4) {
	case 0:
		return drawNode(draw, k)
	case 1:
		return atomNode([]int{0, 0, 1, 2, 3, 90, 90, 255, 256}[draw.Intn(9)])
	}
	return pairNode(draw.Intn(k+1), draw.Intn(k+1))
}

// Drawn arenas, many of them not right, and packets of which one node is drawn anew.
func TestP16DrawnArenas(t *testing.T) {
	draw := rand.New(rand.NewSource(35))
	for range 2000 {
		nodes := drawNodes(draw, 14, drawPacketNode)
		checkPacketsPlain(t, nodes)
		p := packetOf(draw.Intn(4)-1, draw.Intn(4), draw.Intn(4), draw.Intn(4))
		checkPlain(t, nodes, packetCall(p))
		p.Src, p.Hops = draw.Intn(3), 1+draw.Intn(3)
		with, k := mustWords(t, slices.Clone(listOf(draw.Intn(3))), packetCall(p))
		checkOnePacket(t, with, k, p)
		drawAnew(draw, with, draw.Intn(len(with)), drawPacketNode)
		checkPacketsPlain(t, with)
		checkPlain(t, with, packetCall(p))
	}
}

// Every way of each length, at every address: those fit that begin with its bits.
func TestP16EveryWay(t *testing.T) {
	for bits := -1; bits <= 9; bits++ {
		for net := range 256 {
			r := routeOf(net, bits, 5)
			fits := 0
			for dst := -1; dst <= 256; dst++ {
				want := plainFits(r, dst)
				checkFits(t, r, dst, want)
				if want {
					fits++
				}
			}
			if want := map[int]int{0: 256, 1: 128, 2: 64, 3: 32, 4: 16, 5: 8, 6: 4, 7: 2, 8: 1}[bits]; fits != want {
				t.Fatalf("%v fits %d addresses; want %d", r, fits, want)
			}
			checkRoutesOk(t, plainRouteOk(r), r)
		}
	}
}

func TestP16FitsEdges(t *testing.T) {
	for dst := range 256 { // ways of no bits
		checkFits(t, routeOf(0, 0, 0), dst, true)
		checkFits(t, routeOf(255, 0, 0), dst, true)
		checkFits(t, routeOf(77, 8, 0), dst, dst == 77)
		checkFits(t, routeOf(128, 1, 0), dst, dst >= 128)
		checkFits(t, routeOf(0, 1, 0), dst, dst < 128)
		checkFits(t, routeOf(16, 4, 0), dst, dst >= 16 && dst < 32)
		checkFits(t, routeOf(21, 4, 0), dst, dst >= 16 && dst < 32) // a Net that is no multiple
	}
	for _, bits := range []int{-1, -2, 9, 10, 64, -64, 1 << 32, math.MinInt, math.MaxInt, math.MinInt + 8} {
		for _, dst := range []int{0, 16, 255} {
			checkFits(t, routeOf(dst, bits, 0), dst, false)
		}
	}
	for _, dst := range []int{-1, -256, 256, 257, 511, 1 << 32, 1<<32 + 16, math.MinInt, math.MaxInt} {
		for bits := range 9 {
			checkFits(t, routeOf(0, bits, 0), dst, false)
			checkFits(t, routeOf(255, bits, 0), dst, false)
			checkFits(t, routeOf(dst, bits, 0), dst, false)
		}
	}
	for _, to := range []int{-1, 10, math.MinInt, math.MaxInt} { // of where it leads nothing is asked
		checkFits(t, routeOf(16, 4, to), 20, true)
		checkFits(t, routeOf(16, 4, to), 32, false)
	}
}

// A Net that is no address has bits that no address has.
func TestP16NetsThatAreNoAddress(t *testing.T) {
	for _, net := range []int{-1, -16, -256, 256, 272, 511, 512, 1 << 32, math.MinInt, math.MaxInt} {
		for bits := range 9 {
			for _, dst := range []int{0, 1, 16, 20, 128, 255} {
				checkFits(t, routeOf(net, bits, 0), dst, false)
			}
			checkRoutesOk(t, false, routeOf(net, bits, 0))
		}
	}
}

func TestP16RoutesOkEdges(t *testing.T) {
	checkRoutesOk(t, true)
	checkRoutesOk(t, true, routeOf(0, 0, 0))
	checkRoutesOk(t, true, routeOf(0, 0, 1), routeOf(16, 4, 2))
	for _, to := range []int{0, 1, 8, 9} {
		checkRoutesOk(t, true, routeOf(32, 3, to))
	}
	for _, to := range []int{-1, 10, 11, 1 << 32, math.MinInt, math.MaxInt} {
		checkRoutesOk(t, false, routeOf(32, 3, to))
		checkRoutesOk(t, false, routeOf(0, 0, 1), routeOf(32, 3, to))
	}
	for _, r := range []impl.Route{routeOf(0, 8, 0), routeOf(255, 8, 0), routeOf(1, 8, 0), routeOf(254, 7, 0), routeOf(252, 6, 0), routeOf(248, 5, 0), routeOf(240, 4, 0), routeOf(224, 3, 0), routeOf(192, 2, 0), routeOf(128, 1, 0)} {
		checkRoutesOk(t, true, r)
		if r.Bits < 8 {
			checkRoutesOk(t, false, routeOf(r.Net+1, r.Bits, 0))
			checkRoutesOk(t, false, routeOf(r.Net, r.Bits-1, 0))
		}
	}
	for _, bits := range []int{-1, 9, 10, 1 << 32, math.MinInt, math.MaxInt} {
		checkRoutesOk(t, false, routeOf(0, bits, 0))
		checkRoutesOk(t, false, routeOf(0, 0, 0), routeOf(0, bits, 0))
	}
	// One Net with other Bits, and other Nets with one Bits; both the same, wherever they stand.
	checkRoutesOk(t, true, routeOf(0, 0, 5), routeOf(0, 1, 5), routeOf(0, 8, 5), routeOf(128, 1, 5))
	checkRoutesOk(t, false, routeOf(16, 4, 1), routeOf(16, 4, 1))
	checkRoutesOk(t, false, routeOf(16, 4, 1), routeOf(16, 4, 2))
	checkRoutesOk(t, false, routeOf(16, 4, 1), routeOf(0, 0, 1), routeOf(16, 4, 2))
	checkRoutesOk(t, false, routeOf(0, 0, 1), routeOf(0, 1, 1), routeOf(0, 0, 2))
	var eight []impl.Route
	for i := range 8 {
		eight = append(eight, routeOf(32*i, 3, i))
	}
	checkRoutesOk(t, true, eight...)
	checkRoutesOk(t, false, append(slices.Clone(eight), routeOf(0, 0, 0))...)
	checkRoutesOk(t, false, append(slices.Clone(eight[:7]), eight[0])...)
	checkRoutesOk(t, false, slices.Repeat(eight, 3000)...)
}

// Of several ways that fit the one with the most Bits is taken, of two with the same the first one.
func TestP16LongestWay(t *testing.T) {
	ways := []impl.Route{routeOf(0, 0, 1), routeOf(16, 4, 2), routeOf(16, 8, 3), routeOf(0, 1, 4), routeOf(128, 1, 5), routeOf(16, 6, 6)}
	want := func(dst int) impl.Route {
		switch {
		case dst == 16:
			return ways[2]
		case dst >= 16 && dst < 20:
			return ways[5]
		case dst >= 16 && dst < 32:
			return ways[1]
		case dst < 128:
			return ways[3]
		}
		return ways[4]
	}
	checkRoutesOk(t, true, ways...)
	eachOrder(fromTo(0, len(ways)-1), func(order []int) {
		var list []impl.Route
		for _, i := range order {
			list = append(list, ways[i])
		}
		for _, dst := range []int{0, 15, 16, 17, 19, 20, 31, 32, 127, 128, 255} {
			checkRouteOf(t, list, dst, routeTold{want(dst), true})
		}
		checkRouteOf(t, list, -1, routeTold{})
		checkRouteOf(t, list, 256, routeTold{})
	})
	for dst := range 256 {
		checkRouteOf(t, ways, dst, routeTold{want(dst), true})
		checkRouteOf(t, ways[:1], dst, routeTold{ways[0], true}) // no bits at all
		checkRouteOf(t, nil, dst, routeTold{})
	}
	// Two with the same Bits that fit: in lists that are not right, or with a Net that is no multiple.
	checkRouteOf(t, []impl.Route{routeOf(16, 4, 1), routeOf(16, 4, 2)}, 20, routeTold{routeOf(16, 4, 1), true})
	checkRouteOf(t, []impl.Route{routeOf(17, 4, 2), routeOf(16, 4, 1)}, 20, routeTold{routeOf(17, 4, 2), true})
	checkRouteOf(t, []impl.Route{routeOf(7, 0, 2), routeOf(0, 0, 1)}, 20, routeTold{routeOf(7, 0, 2), true})
	checkRouteOf(t, []impl.Route{routeOf(0, 0, 1), routeOf(17, 4, 2), routeOf(16, 4, 1)}, 20, routeTold{routeOf(17, 4, 2), true})
	checkRouteOf(t, []impl.Route{routeOf(0, 0, -7), routeOf(20, 9, 2), routeOf(20, -1, 2)}, 20, routeTold{routeOf(0, 0, -7), true})
	checkRouteOf(t, []impl.Route{routeOf(32, 4, 1), routeOf(20, 9, 2)}, 20, routeTold{})
	// The zero Route is a way of no bits, and told with true.
	checkRouteOf(t, []impl.Route{{}}, 20, routeTold{impl.Route{}, true})
	checkRouteOf(t, []impl.Route{{}}, 256, routeTold{})
}

func drawRoute(draw *rand.Rand) impl.Route {
	bits := draw.Intn(9)
	r := routeOf(draw.Intn(256)>>(8-bits)<<(8-bits), bits, draw.Intn(10))
	switch draw.Intn(12) {
	case 0:
		r.Net = draw.Intn(260) - 2
	case 1:
		r.Bits = draw.Intn(13) - 2
	case 2:
		r.To = draw.Intn(14) - 2
	}
	return r
}

func TestP16DrawnRoutes(t *testing.T) {
	draw := rand.New(rand.NewSource(36))
	right := 0
	for range 20000 {
		var list []impl.Route
		for range draw.Intn(11) {
			if len(list) > 0 && draw.Intn(8) == 0 {
				list = append(list, list[draw.Intn(len(list))])
				continue
			}
			list = append(list, drawRoute(draw))
		}
		ok := plainRoutesOk(list)
		checkRoutesOk(t, ok, list...)
		if ok {
			right++
		}
		for range 5 {
			dst := draw.Intn(260) - 2
			checkRouteOf(t, list, dst, plainRouteOf(list, dst))
			for _, r := range list {
				checkFits(t, r, dst, plainFits(r, dst))
			}
		}
	}
	if right < 1000 || right > 19000 {
		t.Errorf("%d of the drawn lists are right", right)
	}
}

func TestP16LongLists(t *testing.T) {
	list := slices.Repeat([]impl.Route{routeOf(0, 0, 1), routeOf(32, 3, 2)}, 20000)
	list = append(list, routeOf(33, 8, 3))
	checkRoutesOk(t, false, list...)
	checkRouteOf(t, list, 33, routeTold{routeOf(33, 8, 3), true})
	checkRouteOf(t, list, 34, routeTold{routeOf(32, 3, 2), true})
	checkRouteOf(t, list, 64, routeTold{routeOf(0, 0, 1), true})
}

func TestP16AnswersAreNewMemory(t *testing.T) {
	nodes := listOf(90, 10, 20, 3, 7, 40)
	calls := []secretCall{packetCall(packetOf(10, 20, 3, 7)), packetCall(packetOf(0, 0, 1, 0)), packetCall(packetOf(10, 20, 0, 7))}
	for end := range len(nodes) + 1 {
		checkNewMemory(t, nodes[:end], calls)
		checkOnlyRead(t, nodes[:end], func(a impl.Arena, k int) { impl.PacketIn(a, k) })
	}
	spares := slices.Repeat([]impl.Route{routeOf(7, 7, 7)}, 6)
	list := []impl.Route{routeOf(16, 4, 1), routeOf(0, 0, 2), routeOf(32, 3, 3)}
	room := slices.Concat(list, spares)
	impl.RoutesOk(room[:len(list)])
	for dst := range 40 {
		impl.RouteOf(room[:len(list)], dst)
	}
	if !slices.Equal(room, slices.Concat(list, spares)) {
		t.Fatalf("the list, or the room behind it, became %v", room)
	}
}
