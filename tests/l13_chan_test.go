package tests

import (
	"fmt"
	"math"
	"math/rand"
	"slices"
	"testing"

	"loop.example/g00466/impl"
)

var newWindow = windowOf(-1, 0)

// endAt is a new end of a channel.
func endAt(app, side int) impl.Chan {
	return impl.Chan{App: app, Side: side, Now: newWindow, Last: newWindow}
}

// saying is an end that says this next.
func saying(app, side, epoch, seq int) impl.Chan {
	c := endAt(app, side)
	c.Epoch, c.Seq = epoch, seq
	return c
}

// hearing is an end that heard this of an epoch, and of the one ahead of it.
func hearing(app, side, heard int, now, last impl.Window) impl.Chan {
	return impl.Chan{App: app, Side: side, Heard: heard, Now: now, Last: last}
}

func plainChanOk(nodes []impl.Node, c impl.Chan) bool {
	return plainNodeOk(nodes, c.App) && (c.Side == 1 || c.Side == 2) && c.Epoch >= 0 && c.Epoch <= 8 && c.Seq >= 0 && c.Seq <= 10000 &&
		c.Heard >= 0 && c.Heard <= 8 && plainWindowOk(c.Now) && plainWindowOk(c.Last)
}

func plainChanKey(app, epoch, side int) plainWay {
	return func(nodes []impl.Node) ([]impl.Node, int) {
		m := makerOf(nodes)
		secret := m.make(func(nodes []impl.Node) ([]impl.Node, int) { return plainEpoch(nodes, app, epoch) })
		return m.answer(m.make(func(nodes []impl.Node) ([]impl.Node, int) { return plainSide(nodes, secret, side) }))
	}
}

func plainSay(c impl.Chan, body int) plainWay {
	return func(nodes []impl.Node) ([]impl.Node, int) {
		if !plainChanOk(nodes, c) {
			return nodes, -1
		}
		m := makerOf(nodes)
		key := m.make(plainChanKey(c.App, c.Epoch, c.Side))
		return m.answer(m.make(func(nodes []impl.Node) ([]impl.Node, int) { return plainRecord(nodes, key, c.Epoch, c.Seq, body) }))
	}
}

// heardTold is what HearOn answers beside the arena.
type heardTold struct {
	end        impl.Chan
	body, code int
}

func plainHear(nodes []impl.Node, c impl.Chan, k int) heardTold {
	head, isRecord := plainHeadAt(nodes, k)
	if !isRecord || !plainChanOk(nodes, c) {
		return heardTold{c, -1, impl.ChForm}
	}
	next, fresh := c, false
	switch head.epoch {
	case c.Heard:
		next.Now, fresh = plainNoted(c.Now, head.seq)
	case c.Heard - 1:
		next.Last, fresh = plainNoted(c.Last, head.seq)
	case c.Heard + 1:
		next.Heard, next.Last = c.Heard+1, c.Now
		next.Now, fresh = plainNoted(newWindow, head.seq)
	default:
		return heardTold{c, -1, impl.ChEpoch}
	}
	body, opens := plainOpenRecord(nodes, plainFound(nodes, plainChanKey(c.App, head.epoch, 3-c.Side)), k)
	if !opens {
		return heardTold{c, -1, impl.ChSeal}
	}
	if !fresh {
		return heardTold{c, -1, impl.ChOld}
	}
	return heardTold{next, body, 0}
}

func plainNewer(nodes []impl.Node, c impl.Chan, k int) bool {
	head, isRecord := plainHeadAt(nodes, k)
	if !isRecord || head.epoch < c.Heard {
		return false
	}
	return head.epoch != c.Heard || head.seq > c.Now.Top
}

// sayCall asks beside the arena and the place for the channel: its Seq is one more where something was said, and nothing else of it changes.
func sayCall(t *testing.T, c impl.Chan, body int) secretCall {
	t.Helper()
	name := fmt.Sprintf("SayOn(.., %v, %d)", c, body)
	return secretCall{name,
		func(a impl.Arena) (impl.Arena, int) {
			b, got, k := impl.SayOn(a, c, body)
			want := c
			if k >= 0 {
				want.Seq = c.Seq + 1
			}
			if got != want {
				t.Fatalf("%s in %s of %d nodes is %d, with the channel %v; want %v", name, brief(a.Nodes), len(a.Nodes), k, got, want)
			}
			return b, k
		}, plainSay(c, body)}
}

func mustSay(t *testing.T, nodes []impl.Node, c impl.Chan, body int) ([]impl.Node, impl.Chan, int) {
	t.Helper()
	nodes, k := mustWords(t, nodes, sayCall(t, c, body))
	c.Seq++
	return nodes, c, k
}

func checkHear(t *testing.T, nodes []impl.Node, c impl.Chan, k int, want heardTold) {
	t.Helper()
	a, end, body, code := impl.HearOn(arenaOf(nodes...), c, k)
	if got := (heardTold{end, body, code}); got != want {
		t.Fatalf("HearOn(%s of %d nodes, %v, %d) = %v; want %v", brief(nodes), len(nodes), c, k, got, want)
	}
	if !slices.Equal(a.Nodes, nodes) {
		t.Fatalf("HearOn(%s of %d nodes, %v, %d) has the arena %s of %d nodes", brief(nodes), len(nodes), c, k, brief(a.Nodes), len(a.Nodes))
	}
}

// checkNotHeard asks for a code, and the channel as it is.
func checkNotHeard(t *testing.T, nodes []impl.Node, c impl.Chan, k, code int) {
	t.Helper()
	checkHear(t, nodes, c, k, heardTold{c, -1, code})
}

// checkHeard asks for the body, and for what the end has then.
func checkHeard(t *testing.T, nodes []impl.Node, c impl.Chan, k, body int, want impl.Chan) impl.Chan {
	t.Helper()
	checkHear(t, nodes, c, k, heardTold{want, body, 0})
	return want
}

func checkNewer(t *testing.T, nodes []impl.Node, c impl.Chan, k int, want bool) {
	t.Helper()
	if got := impl.NewerOn(arenaOf(nodes...), c, k); got != want {
		t.Fatalf("NewerOn(%s of %d nodes, %v, %d) = %v; want %v", brief(nodes), len(nodes), c, k, got, want)
	}
}

func checkTurn(t *testing.T, c, want impl.Chan, wantOk bool) {
	t.Helper()
	if got, ok := impl.TurnOn(c); got != want || ok != wantOk {
		t.Fatalf("TurnOn(%v) = %v, %v; want %v, %v", c, got, ok, want, wantOk)
	}
}

func checkChanOk(t *testing.T, nodes []impl.Node, c impl.Chan, want bool) {
	t.Helper()
	if got := impl.ChanOk(arenaOf(nodes...), c); got != want {
		t.Fatalf("ChanOk(%s of %d nodes, %v) = %v; want %v", brief(nodes), len(nodes), c, got, want)
	}
}

// checkEndsPlain holds every place of an arena, and some beside them, against the plain ways.
func checkEndsPlain(t *testing.T, nodes []impl.Node, ends ...impl.Chan) {
	t.Helper()
	for _, c := range ends {
		checkChanOk(t, nodes, c, plainChanOk(nodes, c))
		for k := -1; k <= len(nodes)+1; k++ {
			checkHear(t, nodes, c, k, plainHear(nodes, c, k))
			checkNewer(t, nodes, c, k, plainNewer(nodes, c, k))
		}
	}
}

// chanCases are what ends with the app at 1 say of the body at 2, and what that brings behind the three secrets.
func chanCases(t *testing.T) []secretCase {
	of := func(c impl.Chan, brings ...impl.Node) secretCase { return secretCase{sayCall(t, c, 2), brings} }
	return []secretCase{
		of(saying(1, 1, 0, 0), atomNode(1), kdfNode(1, 3), atomNode(0), pairNode(2, 5), pairNode(5, 6), pairNode(5, 7), sealNode(4, 8), pairNode(9, 5), pairNode(5, 10), pairNode(5, 11)),
		of(saying(1, 2, 0, 0), atomNode(2), kdfNode(1, 3), atomNode(0), pairNode(2, 5), pairNode(5, 6), pairNode(5, 7), sealNode(4, 8), pairNode(9, 5), pairNode(5, 10), pairNode(5, 11)),
		of(saying(1, 1, 0, 1), atomNode(1), kdfNode(1, 3), atomNode(0), pairNode(2, 5), pairNode(3, 6), pairNode(5, 7), sealNode(4, 8), pairNode(9, 5), pairNode(3, 10), pairNode(5, 11)),
		of(saying(1, 2, 0, 9999), atomNode(2), kdfNode(1, 3), atomNode(0), atomNode(9999), pairNode(2, 5), pairNode(6, 7), pairNode(5, 8), sealNode(4, 9), pairNode(10, 5), pairNode(6, 11), pairNode(5, 12)),
		of(saying(1, 1, 1, 7), atomNode(30), kdfNode(1, 3), atomNode(1), kdfNode(4, 5), atomNode(7), atomNode(0), pairNode(2, 8), pairNode(7, 9), pairNode(5, 10), sealNode(6, 11), pairNode(12, 8), pairNode(7, 13), pairNode(5, 14)),
		of(saying(1, 2, 1, 30), atomNode(30), kdfNode(1, 3), atomNode(2), kdfNode(4, 5), atomNode(1), atomNode(0), pairNode(2, 8), pairNode(3, 9), pairNode(7, 10), sealNode(6, 11), pairNode(12, 8), pairNode(3, 13), pairNode(7, 14)),
		of(saying(1, 2, 2, 5), atomNode(30), kdfNode(1, 3), kdfNode(4, 3), atomNode(2), kdfNode(5, 6), atomNode(5), atomNode(0), pairNode(2, 9), pairNode(8, 10), pairNode(6, 11), sealNode(7, 12), pairNode(13, 9), pairNode(8, 14), pairNode(6, 15)),
		of(saying(1, 1, 8, 1000), atomNode(30), kdfNode(1, 3), kdfNode(4, 3), kdfNode(5, 3), kdfNode(6, 3), kdfNode(7, 3), kdfNode(8, 3), kdfNode(9, 3), kdfNode(10, 3), atomNode(1), kdfNode(11, 12),
			atomNode(8), atomNode(0), pairNode(2, 15), pairNode(0, 16), pairNode(14, 17), sealNode(13, 18), pairNode(19, 15), pairNode(0, 20), pairNode(14, 21)),
	}
}

func TestP13Constants(t *testing.T) {
	if got, want := []int{impl.ChForm, impl.ChEpoch, impl.ChSeal, impl.ChOld}, []int{1, 2, 3, 4}; !slices.Equal(got, want) {
		t.Errorf("codes are %v; want %v", got, want)
	}
}

func TestP13NewChannels(t *testing.T) {
	for _, app := range []int{0, 1, -1, 2999, 3000, math.MinInt, math.MaxInt} {
		for _, side := range []int{1, 2, 0, 3, -1, math.MinInt, math.MaxInt} {
			want := impl.Chan{App: app, Side: side, Epoch: 0, Seq: 0, Heard: 0, Now: impl.Window{Top: -1, Seen: 0}, Last: impl.Window{Top: -1, Seen: 0}}
			if got := impl.ChanNew(app, side); got != want {
				t.Errorf("ChanNew(%d, %d) = %v; want %v", app, side, got, want)
			}
			checkChanOk(t, threeSecrets, want, app >= 0 && app < 3 && (side == 1 || side == 2))
		}
	}
}

func TestP13TermsNodeByNode(t *testing.T) {
	for _, c := range chanCases(t) {
		checkNodeByNode(t, c)
	}
}

// One that has others: what is said stands behind them, and of what it is made of only what is just that counts.
func TestP13AmongOthers(t *testing.T) {
	others := []impl.Node{atomNode(3), atomNode(31), atomNode(29), atomNode(10), kdfNode(0, 3), kdfNode(1, 3), hashNode(1), pairNode(2, 0), pairNode(0, 1), sealNode(1, 2), sealNode(0, 2)}
	for _, c := range chanCases(t) {
		checkAmong(t, c, others...)
	}
}

// Some are there already, in another order than they would be made in.
func TestP13SomeAreThere(t *testing.T) {
	nodes := slices.Concat(threeSecrets, []impl.Node{atomNode(0), pairNode(2, 3), atomNode(1), atomNode(30), atomNode(7)})
	want := slices.Concat(nodes, []impl.Node{kdfNode(1, 6), kdfNode(8, 5), pairNode(7, 4), pairNode(5, 10), sealNode(9, 11), pairNode(12, 3), pairNode(7, 13), pairNode(5, 14)})
	checkSecret(t, nodes, sayCall(t, saying(1, 1, 1, 7), 2), want, 15)
	for _, c := range chanCases(t) {
		for _, first := range []impl.Node{atomNode(0), atomNode(1), atomNode(2), atomNode(7), atomNode(8), atomNode(30), pairNode(2, 2), kdfNode(1, 1)} {
			nodes := slices.Concat(threeSecrets, []impl.Node{first})
			checkPlain(t, nodes, c.call)
			checkPlain(t, slices.Concat(nodes, []impl.Node{kdfNode(1, 3), kdfNode(4, 3), pairNode(2, 3)}), c.call)
		}
	}
}

// What one end says is a record of its Epoch and Seq, and heard on the other end, once; who said it, and who has another app, does not hear it.
func TestP13HeardOnTheOtherEndOnce(t *testing.T) {
	for epoch := range 9 {
		for _, seq := range []int{0, 1, 15, 16, 17, 998, 9998, 9999} {
			for side := 1; side <= 2; side++ {
				c := saying(1, side, epoch, seq)
				nodes, after, k := mustSay(t, threeSecrets, c, 2)
				if after.Seq != seq+1 || after.Epoch != epoch {
					t.Fatalf("behind a record of %d, %d comes %v", epoch, seq, after)
				}
				checkHead(t, nodes, k, epoch, seq, true)
				other := hearing(1, 3-side, epoch, newWindow, newWindow)
				want := other
				want.Now = windowWith(seq)
				got := checkHeard(t, nodes, other, k, 2, want)
				checkNotHeard(t, nodes, got, k, impl.ChOld)
				own := hearing(1, side, epoch, newWindow, newWindow)
				checkNotHeard(t, nodes, own, k, impl.ChSeal)
				for _, app := range []int{0, 2, 3, 4, k} {
					stranger := other
					stranger.App = app
					checkNotHeard(t, nodes, stranger, k, impl.ChSeal)
				}
			}
		}
	}
}

// Both ends speak by turns, each numbered by itself.
func TestP13BothEndsSpeak(t *testing.T) {
	nodes := slices.Clone(threeSecrets)
	ends := map[int]impl.Chan{1: impl.ChanNew(1, 1), 2: impl.ChanNew(1, 2)}
	came := map[int][]int{}
	for i, side := range []int{1, 1, 2, 1, 2, 2, 2, 1} {
		var k int
		body := i % 3
		nodes, ends[side], k = mustSay(t, nodes, ends[side], body)
		seq := len(came[3-side])
		checkHead(t, nodes, k, 0, seq, true)
		came[3-side] = append(came[3-side], seq)
		want := ends[3-side]
		want.Now = windowWith(came[3-side]...)
		ends[3-side] = checkHeard(t, nodes, ends[3-side], k, body, want)
		checkNotHeard(t, nodes, ends[3-side], k, impl.ChOld)
		checkNotHeard(t, nodes, ends[side], k, impl.ChSeal)
	}
	if ends[1].Seq != 4 || ends[2].Seq != 4 {
		t.Errorf("ends are %v", ends)
	}
}

// sayAll says the body at 2 as often as counts tells for each epoch, with a turn between them, and tells where the records stand.
func sayAll(t *testing.T, counts ...int) ([]impl.Node, []int) {
	t.Helper()
	nodes, places := slices.Clone(threeSecrets), []int{}
	for epoch, count := range counts {
		c := saying(1, impl.SideClient, epoch, 0)
		for range count {
			var k int
			nodes, c, k = mustSay(t, nodes, c, 2)
			places = append(places, k)
		}
	}
	return nodes, places
}

// Records of two epochs, in any order, each of them twice: all are heard once, and the end is the same.
func TestP13AnyOrderAcrossATurn(t *testing.T) {
	for _, counts := range [][]int{{3, 3}, {1, 5}, {5, 1}, {6, 0}, {0, 6}} {
		nodes, places := sayAll(t, counts...)
		heard := min(counts[1], 1)
		windows := [2]impl.Window{windowWith(fromTo(0, counts[0]-1)...), windowWith(fromTo(0, counts[1]-1)...)}
		want := hearing(1, impl.SideServer, heard, windows[heard], newWindow)
		if heard == 1 {
			want.Last = windows[0]
		}
		eachOrder(places, func(order []int) {
			end := impl.ChanNew(1, impl.SideServer)
			for i, k := range order {
				a, next, body, code := impl.HearOn(arenaOf(nodes...), end, k)
				if code != 0 || body != 2 || len(a.Nodes) != len(nodes) {
					t.Fatalf("of %v in the order %v the record at %d is %d, with code %d", counts, order, k, body, code)
				}
				end = next
				for _, again := range order[:i+1] {
					checkNotHeard(t, nodes, end, again, impl.ChOld)
				}
			}
			if end != want {
				t.Fatalf("of %v in the order %v comes %v; want %v", counts, order, end, want)
			}
		})
	}
}

// Records of three epochs, in any order: of an epoch that is two behind or two on nothing is heard.
func TestP13AnyOrderAcrossTwoTurns(t *testing.T) {
	nodes, places := sayAll(t, 2, 2, 2)
	eachOrder(places, func(order []int) {
		end := impl.ChanNew(1, impl.SideServer)
		for _, k := range order {
			epoch := slices.Index(places, k) / 2
			code := 0
			if epoch < end.Heard-1 || epoch > end.Heard+1 {
				code = impl.ChEpoch
			}
			want := plainHear(nodes, end, k)
			if want.code != code {
				t.Fatalf("of the order %v the record at %d has code %d; want %d", order, k, want.code, code)
			}
			checkHear(t, nodes, end, k, want)
			end = want.end
			if code == 0 {
				checkNotHeard(t, nodes, end, k, impl.ChOld)
			} else {
				checkNotHeard(t, nodes, end, k, impl.ChEpoch)
			}
		}
	})
}

// With the next epoch Last is what Now was, whatever Last was; of the one ahead Last alone is noted, of the epoch that is heard Now alone.
func TestP13WhichWindowIsNoted(t *testing.T) {
	now, last := windowWith(3, 5), windowWith(7, 9)
	for heard := range 9 {
		end := hearing(1, impl.SideServer, heard, now, last)
		end.Epoch, end.Seq = 4, 77
		for epoch := range 9 {
			for _, seq := range []int{0, 3, 4, 5, 6, 7, 8, 9, 10, 9999} {
				nodes, _, k := mustSay(t, threeSecrets, saying(1, impl.SideClient, epoch, seq), 2)
				want, code := end, 0
				switch epoch - heard {
				case 0:
					want.Now = windowWith(3, 5, seq)
					code = map[int]int{3: impl.ChOld, 5: impl.ChOld}[seq]
				case -1:
					want.Last = windowWith(7, 9, seq)
					code = map[int]int{7: impl.ChOld, 9: impl.ChOld}[seq]
				case 1:
					want.Heard, want.Last, want.Now = heard+1, now, windowWith(seq)
				default:
					code = impl.ChEpoch
				}
				if code != 0 {
					checkNotHeard(t, nodes, end, k, code)
					continue
				}
				checkHeard(t, nodes, end, k, 2, want)
			}
		}
	}
}

// Just within the window, and just out of it, in both windows; of the next epoch any seq is fresh.
func TestP13EdgesOfTheWindows(t *testing.T) {
	for _, top := range []int{15, 16, 20, 5000, 9999} {
		w := windowWith(top)
		for seq, code := range map[int]int{top - 17: impl.ChOld, top - 16: impl.ChOld, top - 15: 0, top - 14: 0, top - 1: 0, top: impl.ChOld, top + 1: 0, top + 100: 0, 9999: 0, 0: 0} {
			if seq < 0 || seq > 9999 {
				continue
			}
			if seq == 0 && top > 15 {
				code = impl.ChOld
			}
			if seq == 9999 && top == 9999 {
				code = impl.ChOld
			}
			for epoch := 1; epoch <= 3; epoch++ {
				nodes, _, k := mustSay(t, threeSecrets, saying(1, impl.SideServer, epoch, seq), 2)
				end := hearing(1, impl.SideClient, 2, w, windowWith(4000))
				if epoch == 1 {
					end.Now, end.Last = end.Last, end.Now
				}
				want := end
				switch {
				case epoch == 3:
					want.Heard, want.Last, want.Now = 3, w, windowWith(seq)
				case code != 0:
					checkNotHeard(t, nodes, end, k, code)
					continue
				case epoch == 2:
					want.Now = windowWith(top, seq)
				case epoch == 1:
					want.Last = windowWith(top, seq)
				}
				checkHeard(t, nodes, end, k, 2, want)
			}
		}
	}
}

// Epochs from the least to the greatest, by turns of both ends: who turned is heard, and who heard it may turn.
func TestP13AllEpochs(t *testing.T) {
	nodes := slices.Clone(threeSecrets)
	client, server := impl.ChanNew(1, impl.SideClient), impl.ChanNew(1, impl.SideServer)
	for epoch := range 9 {
		for range 2 {
			var k int
			nodes, client, k = mustSay(t, nodes, client, 2)
			a, heard, body, code := impl.HearOn(arenaOf(nodes...), server, k)
			if code != 0 || body != 2 || heard.Heard != epoch || !impl.ChanOk(a, heard) {
				t.Fatalf("of epoch %d comes %v, %d, %d", epoch, heard, body, code)
			}
			server = heard
			nodes, server, k = mustSay(t, nodes, server, 0)
			a, heard, body, code = impl.HearOn(arenaOf(nodes...), client, k)
			if code != 0 || body != 0 || heard.Heard != epoch || !impl.ChanOk(a, heard) {
				t.Fatalf("of epoch %d comes back %v, %d, %d", epoch, heard, body, code)
			}
			client = heard
		}
		if epoch == 8 {
			checkTurn(t, client, client, false)
			checkTurn(t, server, server, false)
			return
		}
		want := client
		want.Epoch, want.Seq = epoch+1, 0
		checkTurn(t, client, want, true)
		checkTurn(t, want, want, false) // not again, ahead of what is heard of that epoch
		client = want
		want = server
		want.Epoch, want.Seq = epoch+1, 0
		checkTurn(t, server, want, true)
		server = want
	}
}

// TurnOn looks at Epoch and Heard alone, and changes Epoch and Seq alone.
func TestP13Turns(t *testing.T) {
	epochs := []int{math.MinInt, -1 << 32, -2, -1, 0, 1, 2, 3, 4, 5, 6, 7, 8, 9, 10, 1 << 32, math.MaxInt - 1, math.MaxInt}
	ends := []impl.Chan{{}, endAt(1, 1), {App: -1, Side: 9, Seq: -5, Now: windowOf(7, 2), Last: windowOf(-5, -5)}, {App: 7, Side: 2, Seq: 10000, Now: windowWith(4, 5), Last: windowWith(9999)}}
	for _, c := range ends {
		for _, epoch := range epochs {
			for _, heard := range epochs {
				c.Epoch, c.Heard = epoch, heard
				want, ok := c, false
				if 0 <= epoch && epoch <= 7 && epoch <= heard {
					want.Epoch, want.Seq, ok = epoch+1, 0, true
				}
				checkTurn(t, c, want, ok)
			}
		}
	}
}

// With Seq at MaxSeq one more can be said; then nothing in this epoch, though the channel is right and hears.
func TestP13LastSeq(t *testing.T) {
	for epoch := range 9 {
		c := saying(1, impl.SideClient, epoch, 9998)
		c.Heard = epoch
		nodes, c, first := mustSay(t, threeSecrets, c, 2)
		nodes, c, second := mustSay(t, nodes, c, 2)
		if c.Seq != 10000 || first == second {
			t.Fatalf("behind seq 9999 comes %v", c)
		}
		checkChanOk(t, nodes, c, true)
		checkRefused(t, nodes, sayCall(t, c, 2))
		heard, _, k := mustSay(t, nodes, saying(1, impl.SideServer, epoch, 3), 0)
		want := c
		want.Now = windowWith(3)
		checkHeard(t, heard, c, k, 0, want)
		over := c
		over.Seq = 10001
		checkChanOk(t, nodes, over, false)
		checkRefused(t, nodes, sayCall(t, over, 2))
		checkNotHeard(t, heard, over, k, impl.ChForm)
		if epoch == 8 {
			continue
		}
		turned, ok := impl.TurnOn(c)
		if !ok || turned.Seq != 0 || turned.Epoch != epoch+1 {
			t.Fatalf("TurnOn(%v) = %v, %v", c, turned, ok)
		}
		mustSay(t, nodes, turned, 2)
	}
}

// wrongEnds are channels with one thing that is not right, beside the three secrets.
func wrongEnds() []impl.Chan {
	var wrong []impl.Chan
	with := func(change func(c *impl.Chan)) {
		c := hearing(1, impl.SideServer, 1, windowWith(3), windowWith(4))
		c.Epoch, c.Seq = 1, 5
		change(&c)
		wrong = append(wrong, c)
	}
	for _, n := range slices.Concat(outside, []int{3}) {
		with(func(c *impl.Chan) { c.App = n })
	}
	for _, n := range []int{0, -1, 3, 4, 1 << 32, 1 + 1<<32, math.MinInt, math.MaxInt} {
		with(func(c *impl.Chan) { c.Side = n })
	}
	for _, n := range []int{-1, 9, 10, 1 << 32, math.MinInt, math.MaxInt} {
		with(func(c *impl.Chan) { c.Epoch = n })
		with(func(c *impl.Chan) { c.Heard = n })
	}
	for _, n := range []int{-1, 10001, 10002, 1 << 32, math.MinInt, math.MaxInt} {
		with(func(c *impl.Chan) { c.Seq = n })
	}
	for _, w := range append(wrongWindows, impl.Window{}) {
		with(func(c *impl.Chan) { c.Now = w })
		with(func(c *impl.Chan) { c.Last = w })
	}
	return append(wrong, impl.Chan{})
}

func TestP13ChannelsThatAreRight(t *testing.T) {
	for app := range 3 {
		for side := 1; side <= 2; side++ {
			for _, epoch := range []int{0, 1, 7, 8} {
				for _, heard := range []int{0, 1, 7, 8} {
					for _, seq := range []int{0, 1, 9998, 9999, 10000} {
						for _, w := range []impl.Window{newWindow, windowWith(0), windowWith(9999), windowOf(15, 65535), windowOf(9999, 65535)} {
							c := impl.Chan{App: app, Side: side, Epoch: epoch, Seq: seq, Heard: heard, Now: w, Last: newWindow}
							checkChanOk(t, threeSecrets, c, true)
							c.Now, c.Last = c.Last, c.Now
							checkChanOk(t, threeSecrets, c, true)
							if seq <= 9999 {
								checkPlain(t, threeSecrets, sayCall(t, c, 2))
							}
						}
					}
				}
			}
		}
	}
}

// A channel that is not right says and hears nothing, whatever the record is.
func TestP13ChannelsThatAreNotRight(t *testing.T) {
	base, records := sayAll(t, 2, 2, 2)
	for _, c := range wrongEnds() {
		checkChanOk(t, threeSecrets, c, false)
		checkRefused(t, threeSecrets, sayCall(t, c, 0), sayCall(t, c, 2), sayCall(t, c, 3), sayCall(t, c, -1))
		if c.App == 3 {
			continue // there is such a node in the longer arena
		}
		checkChanOk(t, base, c, false)
		checkRefused(t, base, sayCall(t, c, 2), sayCall(t, c, len(base)))
		for _, k := range append(slices.Clone(records), -1, 0, len(base)) {
			checkNotHeard(t, base, c, k, impl.ChForm)
		}
	}
	for at := range threeSecrets {
		for _, wrong := range wrongNodes {
			nodes := slices.Clone(threeSecrets)
			nodes[at] = wrong
			checkChanOk(t, nodes, endAt(at, 1), false)
			checkRefused(t, nodes, sayCall(t, endAt(at, 1), 0), sayCall(t, endAt(at, 2), 2), sayCall(t, endAt((at+1)%3, 2), at))
			checkChanOk(t, nodes, endAt((at+1)%3, 1), true)
		}
	}
}

// Codes are looked for in their order: the form, the epoch, the seal, and then whether it is old.
func TestP13FirstCodeCounts(t *testing.T) {
	nodes, places := sayAll(t, 1, 1, 1, 1)
	right := hearing(1, impl.SideServer, 1, windowWith(0), windowWith(0))
	right.Epoch = 1
	checkNotHeard(t, nodes, right, places[0], impl.ChOld)
	checkNotHeard(t, nodes, right, places[1], impl.ChOld)
	checkNotHeard(t, nodes, right, places[3], impl.ChEpoch)
	own := right
	own.Side = impl.SideClient
	checkNotHeard(t, nodes, own, places[0], impl.ChSeal) // old, too
	checkNotHeard(t, nodes, own, places[1], impl.ChSeal)
	checkNotHeard(t, nodes, own, places[2], impl.ChSeal) // of the next epoch: it is not gone over to
	checkNotHeard(t, nodes, own, places[3], impl.ChEpoch)
	none := right
	none.Side = 0
	for _, k := range places {
		checkNotHeard(t, nodes, none, k, impl.ChForm)
	}
	late := hearing(1, impl.SideServer, 5, windowWith(0), windowWith(0))
	for _, k := range places {
		checkNotHeard(t, nodes, late, k, impl.ChEpoch)
	}
	early := hearing(1, impl.SideServer, 0, windowWith(0), newWindow)
	checkNotHeard(t, nodes, early, places[0], impl.ChOld)
	checkNotHeard(t, nodes, early, places[2], impl.ChEpoch)
	checkNotHeard(t, nodes, early, nodes[places[1]].B, impl.ChForm)
}

// Records that another key seals, or that tell other numbers inside: they don't open, and nothing is noted by them.
func TestP13RecordsThatDontOpen(t *testing.T) {
	nodes, _, mine := mustSay(t, threeSecrets, saying(1, impl.SideClient, 1, 7), 2)
	nodes, k0 := plainChanKey(1, 0, impl.SideClient)(nodes)
	key := nodes[nodes[nodes[nodes[mine].B].B].A].A // of the seal
	end := hearing(1, impl.SideServer, 1, newWindow, newWindow)
	want := end
	want.Now = windowWith(7)
	checkHeard(t, nodes, end, mine, 2, want)
	refused := func(nodes []impl.Node, k int) {
		t.Helper()
		checkNotHeard(t, nodes, end, k, impl.ChSeal)
		other := end
		other.Heard = 0
		checkNotHeard(t, nodes, other, k, impl.ChSeal)
		other.Heard = 2
		checkNotHeard(t, nodes, other, k, impl.ChSeal)
	}
	for _, sealed := range []int{0, 1, 2, k0, key - 1} { // by others, by the app itself, by the body, by the key of another epoch, by the Atom of a side
		with, k := mustRecord(t, nodes, sealed, 1, 7, 2)
		refused(with, k)
	}
	for _, in := range [][2]int{{0, 7}, {2, 7}, {1, 6}, {1, 8}, {7, 1}, {1000, 7}} {
		with, k := mustTwofold(t, nodes, key, 1, 7, in[0], in[1], 2)
		refused(with, k)
	}
	m := makerOf(nodes)
	one, seven := m.put(atomNode(1)), m.put(atomNode(7))
	for _, in := range []int{2, one, m.list(), m.list(one, seven), m.list(one, seven, 2, 2), m.list(2, seven, 2), m.list(one, 2, 2), m.put(pairNode(one, m.put(pairNode(seven, 2))))} {
		k := m.list(one, seven, m.put(sealNode(key, in)))
		refused(m.nodes, k)
	}
	// A record of one epoch under the number of another one.
	seal := nodes[nodes[nodes[mine].B].B].A
	zero := m.list(m.put(atomNode(0)), seven, seal)
	checkNotHeard(t, m.nodes, hearing(1, impl.SideServer, 0, newWindow, newWindow), zero, impl.ChSeal)
}

// What is no record has no numbers: it is of no form, and newer than nothing.
func TestP13TermsThatAreNoRecord(t *testing.T) {
	nodes, _, mine := mustSay(t, threeSecrets, saying(1, impl.SideClient, 0, 0), 2)
	key := slices.Index(nodes, kdfNode(1, 3))
	m := makerOf(nodes)
	zero, nine, far := m.put(atomNode(0)), m.put(atomNode(9)), m.put(atomNode(10000))
	seal := nodes[nodes[nodes[mine].B].B].A
	for _, k := range []int{m.list(), m.list(zero, zero), m.list(zero, zero, seal, seal), m.list(nine, zero, seal), m.list(zero, far, seal), m.list(seal, zero, zero), m.list(zero, seal, zero), m.list(zero, zero, key),
		m.list(zero, zero, mine), m.list(1, zero, seal), m.put(pairNode(zero, m.put(pairNode(zero, seal)))), m.put(hashNode(mine)), m.put(sealNode(key, mine)), m.put(signNode(key, mine)), m.put(macNode(key, mine)), seal, nodes[seal].B} {
		for _, end := range []impl.Chan{endAt(1, impl.SideServer), endAt(1, impl.SideClient), hearing(1, impl.SideServer, 8, windowWith(4), newWindow)} {
			checkNewer(t, m.nodes, end, k, false)
			checkNotHeard(t, m.nodes, end, k, impl.ChForm)
		}
	}
	for _, k := range slices.Concat(outside, []int{len(nodes), len(nodes) + 1, 0, 1, 2, 3}) {
		checkNotHeard(t, nodes, endAt(1, impl.SideServer), k, impl.ChForm)
		checkNewer(t, nodes, endAt(1, impl.SideServer), k, false)
		checkNewer(t, nodes, hearing(1, 1, -5, windowOf(-5, 0), newWindow), k, false)
		checkNotHeard(t, nil, endAt(0, impl.SideServer), k, impl.ChForm)
		checkNewer(t, nil, endAt(0, impl.SideServer), k, false)
	}
}

// NewerOn tells records apart by their numbers alone: whose they are, and whether they open, is not asked, nor whether the channel is right.
func TestP13Newer(t *testing.T) {
	tops := []int{-2, -1, 0, 6, 7, 8, 9998, 9999, 10000, math.MinInt, math.MaxInt}
	heards := []int{math.MinInt, -1, 0, 1, 2, 3, 7, 8, 9, math.MaxInt}
	for _, epoch := range []int{0, 1, 2, 8} {
		for _, seq := range []int{0, 6, 7, 8, 9999} {
			nodes, k := mustRecord(t, threeSecrets, 0, epoch, seq, 2)
			for _, heard := range heards {
				for _, top := range tops {
					want := epoch > heard
					if epoch == heard {
						want = seq > top
					}
					for _, end := range []impl.Chan{hearing(1, 1, heard, windowOf(top, 1), newWindow), hearing(-1, 0, heard, windowOf(top, 0), windowOf(seq+1, 1)), hearing(1, 2, heard, windowOf(top, 65535), windowOf(0, 0))} {
						checkNewer(t, nodes, end, k, want)
						end.Epoch, end.Seq = epoch+1, seq+1
						checkNewer(t, nodes, end, k, want)
					}
				}
			}
		}
	}
}

// The body is held to what is there when the record is made, which is behind what the key brings; the app, and with it the channel, ahead of it.
func TestP13BodiesThatTheCallBrings(t *testing.T) {
	nodes := []impl.Node{atomNode(1000)}
	c := saying(0, 1, 0, 0)
	checkSecret(t, nodes, sayCall(t, c, 1), slices.Concat(nodes, []impl.Node{atomNode(1), kdfNode(0, 1), atomNode(0), pairNode(1, 3), pairNode(3, 4), pairNode(3, 5), sealNode(2, 6), pairNode(7, 3), pairNode(3, 8), pairNode(3, 9)}), 10)
	checkSecret(t, nodes, sayCall(t, c, 2), slices.Concat(nodes, []impl.Node{atomNode(1), kdfNode(0, 1), atomNode(0), pairNode(2, 3), pairNode(3, 4), pairNode(3, 5), sealNode(2, 6), pairNode(7, 3), pairNode(3, 8), pairNode(3, 9)}), 10)
	checkRefused(t, nodes, sayCall(t, c, 3), sayCall(t, c, 4), sayCall(t, saying(1, 1, 0, 0), 0), sayCall(t, saying(1, 1, 1, 0), 0), sayCall(t, saying(0, 1, 9, 0), 0))
	for body := -1; body <= 20; body++ {
		for epoch := range 9 {
			checkPlain(t, nodes, sayCall(t, saying(0, 2, epoch, 5), body))
			checkPlain(t, threeSecrets, sayCall(t, saying(2, 1, epoch, 30), body))
		}
	}
	for _, body := range outside {
		checkRefused(t, threeSecrets, sayCall(t, saying(2, 1, 3, 30), body))
	}
	checkRefused(t, nil, sayCall(t, saying(0, 1, 0, 0), 0), sayCall(t, saying(0, 1, 1, 0), 1), sayCall(t, saying(1, 2, 0, 0), 0))
}

func TestP13Room(t *testing.T) {
	for _, c := range chanCases(t) {
		checkRoom(t, c)
	}
}

// At the end of a full arena a record is heard: its key is only looked for, and needs no room. Where the key is not there, it does not open, with room or without it.
func TestP13FullArena(t *testing.T) {
	for epoch, brings := range map[int]int{0: 10, 1: 13, 3: 16, 8: 21} {
		seq := 77
		if epoch == 0 {
			seq = 1
		}
		c := saying(1, impl.SideClient, epoch, seq)
		checkRefused(t, fullBut(brings-1), sayCall(t, c, 2))
		nodes, _, k := mustSay(t, fullBut(brings), c, 2)
		if len(nodes) != impl.MaxNodes || k != impl.MaxNodes-1 {
			t.Fatalf("a record at %d of %d nodes", k, len(nodes))
		}
		end := hearing(1, impl.SideServer, epoch, newWindow, newWindow)
		want := end
		want.Now = windowWith(seq)
		for _, has := range [][]impl.Node{nodes, slices.Concat(nodes, []impl.Node{hashNode(0), hashNode(1)})} {
			checkHeard(t, has, end, k, 2, want)
			checkNotHeard(t, has, want, k, impl.ChOld)
			checkNotHeard(t, has, hearing(1, impl.SideClient, epoch, newWindow, newWindow), k, impl.ChSeal)
			checkNotHeard(t, has, hearing(0, impl.SideServer, epoch, newWindow, newWindow), k, impl.ChSeal)
			checkSecret(t, has, sayCall(t, c, 2), has, k)
			checkRefused(t, has, sayCall(t, c, 0), sayCall(t, saying(1, 2, epoch, seq), 2))
			checkNewer(t, has, end, k, true)
			checkNewer(t, has, want, k, false)
		}
	}
}

// What is only looked for is not put: where the key, or something that it is made of, is missing, nothing opens, also where it would come to stand at just the place that a seal has as its key.
func TestP13KeysAreNotPut(t *testing.T) {
	nodes, _, k := mustSay(t, threeSecrets, saying(1, impl.SideClient, 2, 5), 2)
	end := hearing(1, impl.SideServer, 2, newWindow, newWindow)
	for at := 3; at < len(nodes); at++ {
		if n := nodes[at]; n.Kind == impl.TmKdf || n == atomNode(30) || n == atomNode(1) {
			lost := slices.Clone(nodes)
			lost[at] = pubNode(0)
			checkNotHeard(t, lost, end, k, impl.ChSeal)
		}
	}
	// A seal that has a place past the end as its key is not right; the key would come to stand there.
	ahead := []impl.Node{atomNode(1000), atomNode(0), pairNode(0, 1), pairNode(1, 2), pairNode(1, 3), sealNode(10, 4), pairNode(5, 1), pairNode(1, 6), pairNode(1, 7), atomNode(1)}
	checkNotHeard(t, ahead, endAt(0, impl.SideServer), 8, impl.ChForm)
	with := slices.Concat(ahead, []impl.Node{kdfNode(0, 9)})
	checkNotHeard(t, with, endAt(0, impl.SideServer), 8, impl.ChForm)
	// A key that stands ahead of what it has is found, as Put finds it; but not where its Atom would have to be put.
	early := []impl.Node{atomNode(1000), kdfNode(0, 10), atomNode(0), pairNode(0, 2), pairNode(2, 3), pairNode(2, 4), sealNode(1, 5), pairNode(6, 2), pairNode(2, 7), pairNode(2, 8)}
	checkNotHeard(t, early, endAt(0, impl.SideServer), 9, impl.ChSeal)
	found := slices.Concat(early, []impl.Node{atomNode(1)})
	want := endAt(0, impl.SideServer)
	want.Now = windowWith(0)
	checkHeard(t, found, endAt(0, impl.SideServer), 9, 0, want)
}

// A node that would be right nowhere, wherever it stands.
func TestP13WrongNodes(t *testing.T) {
	right, _, k := mustSay(t, threeSecrets, saying(1, impl.SideClient, 1, 7), 2)
	ends := []impl.Chan{endAt(1, impl.SideServer), hearing(1, impl.SideServer, 1, windowWith(3), newWindow), hearing(1, impl.SideServer, 2, newWindow, windowWith(7)), endAt(0, impl.SideClient)}
	for _, wrong := range wrongNodes {
		for at := range right {
			nodes := slices.Clone(right)
			nodes[at] = wrong
			checkEndsPlain(t, nodes, ends...)
			if at > 2 {
				if _, _, _, code := impl.HearOn(arenaOf(nodes...), ends[0], k); code == 0 {
					t.Fatalf("of %v with %v at %d the record at %d is heard", right, wrong, at, k)
				}
			}
			checkPlain(t, nodes, sayCall(t, saying(1, 1, 1, 7), 2), sayCall(t, saying(1, 2, 2, 8), 0), sayCall(t, saying(at, 1, 0, 7), 2), sayCall(t, saying(0, 1, 1, 7), at))
			checkRefused(t, nodes, sayCall(t, saying(at, 1, 1, 7), 2), sayCall(t, saying(at, 2, 0, 0), 0))
		}
		behind := slices.Concat(right, []impl.Node{wrong})
		checkEndsPlain(t, behind, ends...)
		checkSecret(t, behind, sayCall(t, saying(1, 1, 1, 7), 2), behind, k)
	}
}

// The nodes of a record in drawn orders, many of them ahead of what they have, and some of them twice.
func TestP13DrawnOrders(t *testing.T) {
	draw := rand.New(rand.NewSource(24))
	for range 600 {
		base, _, _ := mustSay(t, threeSecrets, saying(1, 1+draw.Intn(2), draw.Intn(3), draw.Intn(3)), 2)
		if draw.Intn(2) == 0 {
			base = append(base, base[3+draw.Intn(len(base)-3)])
		}
		places := everyPlace(len(base))
		if draw.Intn(3) > 0 {
			x, y := 3+draw.Intn(len(base)-3), 3+draw.Intn(len(base)-3)
			places[x], places[y] = places[y], places[x]
		} else {
			places = drawPlaces(draw, len(base))
		}
		nodes := moved(base, places)
		side := 1 + draw.Intn(2)
		checkEndsPlain(t, nodes, hearing(places[1], side, draw.Intn(3), newWindow, newWindow))
		checkPlain(t, nodes, sayCall(t, saying(places[1], side, draw.Intn(3), draw.Intn(3)), places[2]))
	}
}

// drawChanNode is often one of those of which records are made, and their keys.
func drawChanNode(draw *rand.Rand, k int) impl.Node {
	switch draw.Intn(5) {
	case 0:
		return kdfNode(draw.Intn(k+1), draw.Intn(k+1))
	case 1:
		return atomNode([]int{0, 1, 1, 2, 2, 30}[draw.Intn(6)])
	}
	return drawRecordNode(draw, k)
}

// drawEnd is a channel that is right most of the time.
func drawEnd(draw *rand.Rand, end int) impl.Chan {
	window := func() impl.Window {
		switch draw.Intn(5) {
		case 0:
			return newWindow
		case 1:
			return windowOf(draw.Intn(4)-1, draw.Intn(4))
		}
		return windowWith(draw.Intn(4), draw.Intn(20))
	}
	c := impl.Chan{App: draw.Intn(end+2) - 1, Side: 1 + draw.Intn(2), Epoch: draw.Intn(3), Seq: draw.Intn(4), Heard: draw.Intn(3), Now: window(), Last: window()}
	switch draw.Intn(12) {
	case 0:
		c.Side = draw.Intn(5) - 1
	case 1:
		c.Epoch, c.Heard = draw.Intn(12)-1, draw.Intn(12)-1
	case 2:
		c.Seq = 9998 + draw.Intn(5)
	}
	return c
}

// Drawn arenas, many of them not right: every function answers as the plain way does.
func TestP13DrawnArenas(t *testing.T) {
	draw := rand.New(rand.NewSource(25))
	for range 2500 {
		nodes := drawNodes(draw, 14, drawChanNode)
		c := drawEnd(draw, len(nodes))
		checkEndsPlain(t, nodes, c)
		checkPlain(t, nodes, sayCall(t, c, draw.Intn(len(nodes)+4)-1))
	}
}

// Records of which one node is drawn anew: each place answers as the plain way does.
func TestP13DrawnRecords(t *testing.T) {
	draw := rand.New(rand.NewSource(26))
	for range 500 {
		nodes := slices.Clone(threeSecrets)
		for range 2 {
			nodes, _, _ = mustSay(t, nodes, saying(1, 1+draw.Intn(2), draw.Intn(3), draw.Intn(3)), draw.Intn(3))
		}
		c := drawEnd(draw, 2)
		c.App = 1
		checkEndsPlain(t, nodes, c)
		drawAnew(draw, nodes, draw.Intn(len(nodes)), drawChanNode)
		checkEndsPlain(t, nodes, c)
		checkPlain(t, nodes, sayCall(t, c, draw.Intn(len(nodes))))
	}
}

// A drawn way between two ends loses, doubles and turns around: what is heard was said on the other end, and is heard once; what is no further than 15 behind the newest of its epoch, and not of an older epoch than the one ahead, is heard.
func TestP13DrawnWays(t *testing.T) {
	draw := rand.New(rand.NewSource(27))
	type record struct{ place, epoch, seq, body int }
	for range 30 {
		nodes := slices.Clone(threeSecrets)
		ends := [3]impl.Chan{{}, impl.ChanNew(1, 1), impl.ChanNew(1, 2)}
		var between [3][]record
		heard := [3]map[int]bool{nil, {}, {}}
		for range 60 {
			side := 1 + draw.Intn(2)
			switch draw.Intn(6) {
			case 0, 1, 2:
				c, body := ends[side], draw.Intn(3)
				var k int
				nodes, ends[side], k = mustSay(t, nodes, c, body)
				between[3-side] = append(between[3-side], record{k, c.Epoch, c.Seq, body})
			case 3, 4:
				if len(between[side]) == 0 {
					continue
				}
				r := between[side][draw.Intn(len(between[side]))]
				want := plainHear(nodes, ends[side], r.place)
				checkHear(t, nodes, ends[side], r.place, want)
				near := r.epoch >= ends[side].Heard-1 && r.epoch <= ends[side].Heard+1
				switch {
				case heard[side][r.place] && want.code == 0:
					t.Fatalf("the record %v is heard twice", r)
				case !near && want.code != impl.ChEpoch, near && want.code != 0 && want.code != impl.ChOld:
					t.Fatalf("the record %v has code %d on %v", r, want.code, ends[side])
				case want.code == 0 && want.body != r.body:
					t.Fatalf("the record %v is heard as %d", r, want.body)
				}
				if want.code == 0 {
					heard[side][r.place] = true
				}
				ends[side] = want.end
			case 5:
				ends[side], _ = impl.TurnOn(ends[side])
			}
			checkChanOk(t, nodes, ends[side], true)
		}
	}
}

// Who hears all records of a channel has neither the app nor a body that is a secret; who has the key of one side and epoch opens those of that alone.
func TestP13WhoHearsAll(t *testing.T) {
	nodes := slices.Clone(threeSecrets)
	var known []int
	for epoch := range 3 {
		for side := 1; side <= 2; side++ {
			var k int
			nodes, _, k = mustSay(t, nodes, saying(1, side, epoch, 4), 2)
			known = append(known, k)
		}
	}
	a := arenaOf(nodes...)
	for _, k := range []int{1, 2} {
		if impl.Derives(a, known, k) {
			t.Errorf("who knows %v of %v has %d", known, nodes, k)
		}
	}
	for i, k := range known {
		key := plainFound(nodes, plainChanKey(1, i/2, 1+i%2))
		if !impl.Derives(a, []int{k, key}, 2) {
			t.Errorf("who knows the key %d of the record %d has not its body", key, k)
		}
		others := slices.Concat(known[:i], known[i+1:])
		if impl.Derives(a, append(others, key), 2) {
			t.Errorf("who knows the key %d of the record %d has the body of one of %v", key, k, others)
		}
	}
}

func TestP13AnswersAreNewMemory(t *testing.T) {
	nodes, _, k := mustSay(t, threeSecrets, saying(1, impl.SideClient, 1, 7), 2)
	var calls []secretCall
	for _, body := range []int{-1, 0, 2, 3, 99} {
		calls = append(calls, sayCall(t, saying(1, 1, 1, 7), body), sayCall(t, saying(1, 2, 0, 3), body), sayCall(t, saying(7, 1, 2, 3), body), sayCall(t, saying(1, 1, 1, 10000), body))
	}
	for _, c := range []impl.Chan{endAt(1, 2), endAt(1, 1), endAt(-1, 2), hearing(1, 2, 1, windowWith(7), newWindow), hearing(1, 2, 5, newWindow, newWindow)} {
		for _, at := range []int{-1, 0, k, len(nodes)} {
			asItIs := func(nodes []impl.Node) ([]impl.Node, int) { return nodes, plainHear(nodes, c, at).body }
			calls = append(calls, secretCall{"HearOn", func(a impl.Arena) (impl.Arena, int) {
				b, _, body, _ := impl.HearOn(a, c, at)
				return b, body
			}, asItIs})
		}
	}
	for _, end := range []int{0, 3, 8, len(nodes)} {
		checkNewMemory(t, nodes[:end], calls)
		checkOnlyRead(t, nodes[:end], func(a impl.Arena, k int) {
			impl.ChanOk(a, endAt(k, 1))
			impl.NewerOn(a, endAt(1, 2), k)
			impl.HearOn(a, endAt(1, 2), k)
		})
	}
}
