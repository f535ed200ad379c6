package tests

import (
	"fmt"
	"math"
	"math/rand"
	"slices"
	"testing"

	"loop.example/g00466/impl"
)

// plainNumbered puts the Atoms of both numbers, then what is made of them, then the List of three, pair by pair from its end on.
func plainNumbered(nodes []impl.Node, epoch, seq int, term func(nodes []impl.Node) ([]impl.Node, int)) ([]impl.Node, int) {
	with, first := plainAtom(nodes, epoch)
	if first < 0 {
		return nodes, -1
	}
	with, second := plainAtom(with, seq)
	if second < 0 {
		return nodes, -1
	}
	with, third := term(with)
	if third < 0 {
		return nodes, -1
	}
	with, k := plainList(with, []int{first, second, third})
	if k < 0 {
		return nodes, -1
	}
	return with, k
}

// plainTwofold is a record that tells one epoch and seq outside, and maybe others inside.
func plainTwofold(nodes []impl.Node, key, epoch, seq, inEpoch, inSeq, body int) ([]impl.Node, int) {
	return plainNumbered(nodes, epoch, seq, func(nodes []impl.Node) ([]impl.Node, int) {
		with, in := plainNumbered(nodes, inEpoch, inSeq, func(nodes []impl.Node) ([]impl.Node, int) { return nodes, body })
		if in < 0 {
			return nodes, -1
		}
		return plainPut(with, sealNode(key, in))
	})
}

func areNumbers(epoch, seq int) bool { return epoch >= 0 && epoch <= 8 && seq >= 0 && seq <= 9999 }

func plainRecord(nodes []impl.Node, key, epoch, seq, body int) ([]impl.Node, int) {
	if !areNumbers(epoch, seq) || !plainNodeOk(nodes, key) || !plainNodeOk(nodes, body) {
		return nodes, -1
	}
	return plainTwofold(nodes, key, epoch, seq, epoch, seq, body)
}

type plainHead struct {
	epoch, seq, seal int
}

func plainHeadAt(nodes []impl.Node, k int) (plainHead, bool) {
	parts, ok := plainParts(nodes, k, 3)
	if !ok {
		return plainHead{}, false
	}
	epoch, isEpoch := plainNum(nodes, parts[0])
	seq, isSeq := plainNum(nodes, parts[1])
	isSeal := plainNodeOk(nodes, parts[2]) && nodes[parts[2]].Kind == impl.TmSeal
	if !isEpoch || !isSeq || !isSeal || !areNumbers(epoch, seq) {
		return plainHead{}, false
	}
	return plainHead{epoch, seq, parts[2]}, true
}

func plainOpenRecord(nodes []impl.Node, key, k int) (int, bool) {
	head, ok := plainHeadAt(nodes, k)
	if !ok || nodes[head.seal].A != key {
		return -1, false
	}
	in, ok := plainParts(nodes, nodes[head.seal].B, 3)
	if !ok || nodes[in[0]] != atomNode(head.epoch) || nodes[in[1]] != atomNode(head.seq) {
		return -1, false
	}
	return in[2], true
}

func recordCall(key, epoch, seq, body int) secretCall {
	return secretCall{fmt.Sprintf("RecordOf(.., %d, %d, %d, %d)", key, epoch, seq, body),
		func(a impl.Arena) (impl.Arena, int) { return impl.RecordOf(a, key, epoch, seq, body) },
		func(nodes []impl.Node) ([]impl.Node, int) { return plainRecord(nodes, key, epoch, seq, body) }}
}

func checkHead(t *testing.T, nodes []impl.Node, k, wantEpoch, wantSeq int, wantOk bool) {
	t.Helper()
	if epoch, seq, ok := impl.RecordHead(arenaOf(nodes...), k); epoch != wantEpoch || seq != wantSeq || ok != wantOk {
		t.Fatalf("RecordHead(%s of %d nodes, %d) = %d, %d, %v; want %d, %d, %v", brief(nodes), len(nodes), k, epoch, seq, ok, wantEpoch, wantSeq, wantOk)
	}
}

func checkBody(t *testing.T, nodes []impl.Node, key, k, want int, wantOk bool) {
	t.Helper()
	if got, ok := impl.OpenRecord(arenaOf(nodes...), key, k); got != want || ok != wantOk {
		t.Fatalf("OpenRecord(%s of %d nodes, %d, %d) = %d, %v; want %d, %v", brief(nodes), len(nodes), key, k, got, ok, want, wantOk)
	}
}

// checkNoRecord asks for a place that tells no numbers, and that no key opens.
func checkNoRecord(t *testing.T, nodes []impl.Node, k int) {
	t.Helper()
	checkHead(t, nodes, k, 0, 0, false)
	checkShut(t, nodes, k)
}

// checkShut asks for a place that no key opens.
func checkShut(t *testing.T, nodes []impl.Node, k int) {
	t.Helper()
	for key := -1; key <= len(nodes); key++ {
		checkBody(t, nodes, key, k, -1, false)
	}
}

// checkRecord asks for a record that tells these numbers, and that its key alone opens, to its body.
func checkRecord(t *testing.T, nodes []impl.Node, k, key, epoch, seq, body int) {
	t.Helper()
	checkHead(t, nodes, k, epoch, seq, true)
	for other := -1; other <= len(nodes); other++ {
		if other != key {
			checkBody(t, nodes, other, k, -1, false)
		}
	}
	checkBody(t, nodes, key, k, body, true)
}

// checkAllRecords holds every place of an arena, and some beside them, against the plain ways.
func checkAllRecords(t *testing.T, nodes []impl.Node) {
	t.Helper()
	for k := -1; k <= len(nodes)+1; k++ {
		head, ok := plainHeadAt(nodes, k)
		checkHead(t, nodes, k, head.epoch, head.seq, ok)
		for key := -1; key <= len(nodes)+1; key++ {
			body, ok := plainOpenRecord(nodes, key, k)
			checkBody(t, nodes, key, k, body, ok)
		}
	}
}

func mustRecord(t *testing.T, nodes []impl.Node, key, epoch, seq, body int) ([]impl.Node, int) {
	t.Helper()
	b, k := mustMake(t, arenaOf(nodes...), recordCall(key, epoch, seq, body))
	return b.Nodes, k
}

func mustTwofold(t *testing.T, nodes []impl.Node, key, epoch, seq, inEpoch, inSeq, body int) ([]impl.Node, int) {
	t.Helper()
	with, k := plainTwofold(nodes, key, epoch, seq, inEpoch, inSeq, body)
	if k < 0 {
		t.Fatalf("no such record can be made in %v", nodes)
	}
	return with, k
}

// recordCases are records of secrets at 0, 1 and 2, and the nodes that they bring behind these, the last one being the record.
func recordCases() []secretCase {
	of := func(c secretCall, brings ...impl.Node) secretCase { return secretCase{c, brings} }
	return []secretCase{
		of(recordCall(0, 1, 7, 1), atomNode(1), atomNode(7), atomNode(0), pairNode(1, 5), pairNode(4, 6), pairNode(3, 7),
			sealNode(0, 8), pairNode(9, 5), pairNode(4, 10), pairNode(3, 11)),
		of(recordCall(2, 8, 9999, 0), atomNode(8), atomNode(9999), atomNode(0), pairNode(0, 5), pairNode(4, 6), pairNode(3, 7),
			sealNode(2, 8), pairNode(9, 5), pairNode(4, 10), pairNode(3, 11)),
		of(recordCall(1, 0, 5, 2), atomNode(0), atomNode(5), pairNode(2, 3), pairNode(4, 5), pairNode(3, 6),
			sealNode(1, 7), pairNode(8, 3), pairNode(4, 9), pairNode(3, 10)),
		of(recordCall(1, 5, 0, 2), atomNode(5), atomNode(0), pairNode(2, 4), pairNode(4, 5), pairNode(3, 6),
			sealNode(1, 7), pairNode(8, 4), pairNode(4, 9), pairNode(3, 10)),
		of(recordCall(0, 3, 3, 1), atomNode(3), atomNode(0), pairNode(1, 4), pairNode(3, 5), pairNode(3, 6),
			sealNode(0, 7), pairNode(8, 4), pairNode(3, 9), pairNode(3, 10)),
		of(recordCall(0, 0, 0, 1), atomNode(0), pairNode(1, 3), pairNode(3, 4), pairNode(3, 5),
			sealNode(0, 6), pairNode(7, 3), pairNode(3, 8), pairNode(3, 9)),
		of(recordCall(2, 2, 6, 2), atomNode(2), atomNode(6), atomNode(0), pairNode(2, 5), pairNode(4, 6), pairNode(3, 7),
			sealNode(2, 8), pairNode(9, 5), pairNode(4, 10), pairNode(3, 11)),
		of(recordCall(0, 4, 1000, 0), atomNode(4), atomNode(0), pairNode(0, 4), pairNode(0, 5), pairNode(3, 6),
			sealNode(0, 7), pairNode(8, 4), pairNode(0, 9), pairNode(3, 10)),
	}
}

func TestP8MaxEpoch(t *testing.T) {
	if impl.MaxEpoch != 8 {
		t.Errorf("MaxEpoch is %d; want 8", impl.MaxEpoch)
	}
}

func TestP8TermsNodeByNode(t *testing.T) {
	for _, c := range recordCases() {
		checkNodeByNode(t, c)
	}
}

// In an arena of key and body alone, and of one that is both.
func TestP8KeyAndBodyAlone(t *testing.T) {
	nodes := []impl.Node{secretAtom(0), hashNode(0)}
	want := slices.Concat(nodes, []impl.Node{atomNode(1), atomNode(2), atomNode(0), pairNode(1, 4), pairNode(3, 5), pairNode(2, 6),
		sealNode(0, 7), pairNode(8, 4), pairNode(3, 9), pairNode(2, 10)})
	checkSecret(t, nodes, recordCall(0, 1, 2, 1), want, 11)
	checkRecord(t, want, 11, 0, 1, 2, 1)
	nodes = nodes[:1]
	want = []impl.Node{secretAtom(0), atomNode(1), atomNode(2), atomNode(0), pairNode(0, 3), pairNode(2, 4), pairNode(1, 5),
		sealNode(0, 6), pairNode(7, 3), pairNode(2, 8), pairNode(1, 9)}
	checkSecret(t, nodes, recordCall(0, 1, 2, 0), want, 10)
	checkRecord(t, want, 10, 0, 1, 2, 0)
}

// Of an Atom 0 that is key, body, both numbers and the end of both Lists, there is one.
func TestP8OneAtomForAll(t *testing.T) {
	nodes := []impl.Node{atomNode(0)}
	want := []impl.Node{atomNode(0), pairNode(0, 0), pairNode(0, 1), pairNode(0, 2), sealNode(0, 3), pairNode(4, 0), pairNode(0, 5), pairNode(0, 6)}
	checkSecret(t, nodes, recordCall(0, 0, 0, 0), want, 7)
	checkRecord(t, want, 7, 0, 0, 0, 0)
	nodes = []impl.Node{atomNode(4)}
	want = []impl.Node{atomNode(4), atomNode(0), pairNode(0, 1), pairNode(0, 2), pairNode(0, 3), sealNode(0, 4), pairNode(5, 1), pairNode(0, 6), pairNode(0, 7)}
	checkSecret(t, nodes, recordCall(0, 4, 4, 0), want, 8)
	checkRecord(t, want, 8, 0, 4, 4, 0)
}

// One that has others: what is made stands behind them, and of what it is made of only what is just that counts.
func TestP8AmongOthers(t *testing.T) {
	others := []impl.Node{atomNode(10), atomNode(999), hashNode(0), pairNode(0, 1), sealNode(0, 1), sealNode(1, 0), kdfNode(0, 1)}
	for _, c := range recordCases() {
		checkAmong(t, c, others...)
	}
}

// Some are there already, in another order than they would be made in.
func TestP8SomeAreThere(t *testing.T) {
	nodes := slices.Concat(threeSecrets, []impl.Node{atomNode(0), atomNode(7), atomNode(1)})
	want := slices.Concat(nodes, []impl.Node{pairNode(1, 3), pairNode(4, 6), pairNode(5, 7), sealNode(0, 8), pairNode(9, 3), pairNode(4, 10), pairNode(5, 11)})
	checkSecret(t, nodes, recordCall(0, 1, 7, 1), want, 12)
	nodes = slices.Concat(threeSecrets, []impl.Node{atomNode(0), pairNode(1, 3), atomNode(7), pairNode(5, 4)})
	want = slices.Concat(nodes, []impl.Node{atomNode(1), pairNode(7, 6), sealNode(0, 8), pairNode(9, 3), pairNode(5, 10), pairNode(7, 11)})
	checkSecret(t, nodes, recordCall(0, 1, 7, 1), want, 12)
	for _, c := range recordCases() {
		for _, first := range []impl.Node{atomNode(0), atomNode(7), atomNode(1), atomNode(5), atomNode(9999), pairNode(0, 1), sealNode(0, 1)} {
			checkPlain(t, slices.Concat(threeSecrets, []impl.Node{first}), c.call)
			checkPlain(t, slices.Concat(threeSecrets, []impl.Node{first, pairNode(0, 3), pairNode(1, 3), pairNode(2, 3), pairNode(3, 3)}), c.call)
		}
	}
}

// Each epoch with each of many seqs, at each key and body.
func TestP8RecordsComeBackWithTheirKey(t *testing.T) {
	seqs := []int{0, 1, 2, 7, 8, 9, 15, 16, 127, 128, 999, 1000, 1001, 9998, 9999}
	for epoch := range impl.MaxEpoch + 1 {
		for _, seq := range seqs {
			for key := range threeSecrets {
				for body := range threeSecrets {
					nodes, k := mustRecord(t, threeSecrets, key, epoch, seq, body)
					checkRecord(t, nodes, k, key, epoch, seq, body)
				}
			}
		}
	}
}

// Every number that there is tells itself, and no other one.
func TestP8EverySeq(t *testing.T) {
	for seq := range impl.MaxSeq + 1 {
		epoch := seq % (impl.MaxEpoch + 1)
		nodes, k := mustRecord(t, threeSecrets, 0, epoch, seq, 1)
		checkHead(t, nodes, k, epoch, seq, true)
		checkBody(t, nodes, 0, k, 1, true)
		checkBody(t, nodes, 1, k, -1, false)
	}
}

// Any right node may be key or body: also a record, its own seal, and the List within it.
func TestP8AnyRightNodeIsKeyAndBody(t *testing.T) {
	nodes := slices.Concat(threeSecrets, []impl.Node{hashNode(0), kdfNode(0, 1), pubNode(1), dhNode(0, 1), signNode(0, 1), macNode(0, 1), sealNode(0, 1), pairNode(0, 1)})
	nodes, first := mustRecord(t, nodes, 0, 1, 7, 1)
	for key := range nodes {
		for body := range nodes {
			with, k := mustRecord(t, nodes, key, 2, 8, body)
			checkHead(t, with, k, 2, 8, true)
			checkBody(t, with, key, k, body, true)
			checkBody(t, with, (key+1)%len(nodes), k, -1, false)
			checkHead(t, with, first, 1, 7, true)
			checkBody(t, with, 0, first, 1, true)
		}
	}
}

// Records of one key with unlike numbers are unlike, though they have one body; and so are those of unlike keys and bodies.
func TestP8UnlikeRecords(t *testing.T) {
	type record struct{ key, epoch, seq, body int }
	var records []record
	for _, r := range []record{{epoch: 0, seq: 0}, {epoch: 0, seq: 1}, {epoch: 1, seq: 0}, {epoch: 1, seq: 1}, {epoch: 8, seq: 9999}, {epoch: 7, seq: 8}, {epoch: 8, seq: 7}} {
		for key := range threeSecrets {
			for body := range threeSecrets {
				records = append(records, record{key, r.epoch, r.seq, body})
			}
		}
	}
	nodes, places, who := threeSecrets, make([]int, len(records)), map[int]record{}
	for i, r := range records {
		nodes, places[i] = mustRecord(t, nodes, r.key, r.epoch, r.seq, r.body)
		if other, twice := who[places[i]]; twice {
			t.Fatalf("%v is the record that %v is", r, other)
		}
		who[places[i]] = r
	}
	if !impl.ArenaOk(arenaOf(nodes...)) {
		t.Fatalf("what is made makes an arena that is not right: %v", nodes)
	}
	for i, r := range records {
		checkRecord(t, nodes, places[i], r.key, r.epoch, r.seq, r.body)
		checkSecret(t, nodes, recordCall(r.key, r.epoch, r.seq, r.body), nodes, places[i])
	}
}

// Who hears a record has its numbers, and its body with its key alone.
func TestP8WhoHearsARecord(t *testing.T) {
	nodes, k := mustRecord(t, threeSecrets, 0, 1, 7, 1)
	a := arenaOf(nodes...)
	if impl.Derives(a, []int{k}, 1) || impl.Derives(a, []int{k, 2}, 1) || impl.Derives(a, []int{k, 1}, 0) {
		t.Errorf("who hears a record of %v has its body, or its key", nodes)
	}
	if !impl.Derives(a, []int{k, 0}, 1) {
		t.Errorf("who hears a record of %v, and has its key, has not its body", nodes)
	}
}

// Limits that are met are accepted, and those that are passed refused: by RecordOf, and in what others made.
func TestP8Limits(t *testing.T) {
	for _, epoch := range []int{0, 8} {
		for _, seq := range []int{0, 9999} {
			nodes, k := mustRecord(t, threeSecrets, 0, epoch, seq, 1)
			checkRecord(t, nodes, k, 0, epoch, seq, 1)
		}
	}
	for _, numbers := range [][2]int{{9, 0}, {9, 9999}, {0, 10000}, {8, 10000}, {9, 10000}, {10, 7}, {999, 7}, {1000, 7}, {999999, 7}, {1, 10001}, {1, 999999}, {7777, 1}} {
		checkRefused(t, threeSecrets, recordCall(0, numbers[0], numbers[1], 1))
		nodes, k := mustTwofold(t, threeSecrets, 0, numbers[0], numbers[1], numbers[0], numbers[1], 1)
		checkNoRecord(t, nodes, k)
		checkRefused(t, nodes, recordCall(0, numbers[0], numbers[1], 1))
	}
	wrong := []int{-1, -2, -8, -9999, 10000, 10001, 1 << 16, 1 << 32, 1<<32 + 1, math.MaxInt, math.MinInt, math.MinInt + 1}
	for _, number := range wrong {
		checkRefused(t, threeSecrets, recordCall(0, number, 7, 1), recordCall(0, 1, number, 1), recordCall(0, number, number, 1))
		checkRefused(t, nil, recordCall(0, number, 7, 0), recordCall(0, 1, number, 0))
	}
}

// A record whose inside tells another epoch, the one ahead or any other, or another seq: it tells what stands outside, and nobody opens it.
func TestP8InsideTellsOthers(t *testing.T) {
	for epoch := range 9 {
		for inEpoch := range 11 {
			for _, seqs := range [][2]int{{7, 7}, {7, 6}, {7, 8}, {0, 0}, {0, 1}, {1, 0}, {9999, 9999}, {9999, 10000}, {9999, 0}, {epoch, inEpoch}, {inEpoch, epoch}} {
				nodes, k := mustTwofold(t, threeSecrets, 0, epoch, seqs[0], inEpoch, seqs[1], 1)
				checkHead(t, nodes, k, epoch, seqs[0], true)
				if epoch == inEpoch && seqs[0] == seqs[1] {
					checkRecord(t, nodes, k, 0, epoch, seqs[0], 1)
				} else {
					checkShut(t, nodes, k)
				}
			}
		}
	}
}

// Who has no key takes a record's seal, and says it with other numbers outside.
func TestP8SealUnderOtherNumbers(t *testing.T) {
	nodes, record := mustRecord(t, threeSecrets, 0, 2, 7, 1)
	parts, _ := plainParts(nodes, record, 3)
	for epoch := range 9 {
		for _, seq := range []int{0, 6, 7, 8, 9999} {
			with, k := plainNumbered(nodes, epoch, seq, func(nodes []impl.Node) ([]impl.Node, int) { return nodes, parts[2] })
			checkHead(t, with, k, epoch, seq, true)
			if k != record {
				checkShut(t, with, k)
			}
			checkRecord(t, with, record, 0, 2, 7, 1)
		}
	}
}

// Keys of epochs one behind the other: a record opens with that of its own one.
func TestP8KeysOfEpochs(t *testing.T) {
	a, keys := arenaOf(threeSecrets...), make([]int, 9)
	for epoch := range keys {
		var secret int
		a, secret = mustMake(t, a, epochCall(0, epoch))
		a, keys[epoch] = mustMake(t, a, sideCall(secret, impl.SideClient))
	}
	for epoch := range keys {
		nodes, k := mustRecord(t, a.Nodes, keys[epoch], epoch, 7, 1)
		checkRecord(t, nodes, k, keys[epoch], epoch, 7, 1)
	}
}

// oddInsides are what a seal may hold that is no List of three with two Atoms, in an arena of three secrets, Atoms 0, 1 and 7, and these.
var oddInsides = []impl.Node{
	pairNode(1, 3), pairNode(5, 6), pairNode(4, 7), // the List of three, from its end on, at 6 to 8
	pairNode(0, 8), pairNode(5, 4), pairNode(4, 10), pairNode(0, 6), pairNode(4, 12), pairNode(5, 13), // a List of four at 9; others of another length, without an end, or with other numbers
	hashNode(4), pairNode(15, 7), pairNode(15, 6), pairNode(4, 17), // Lists of three whose first or second is no Atom, at 16 and 18
	hashNode(8), sealNode(0, 8), kdfNode(4, 7),
}

// Only the List of three with the same numbers is opened, whatever else is sealed; without the key none of it is looked at.
func TestP8InsideThatIsNoList(t *testing.T) {
	nodes := slices.Concat(threeSecrets, []impl.Node{atomNode(0), atomNode(1), atomNode(7)}, oddInsides)
	for inside := range nodes {
		with, k := plainNumbered(nodes, 1, 7, func(nodes []impl.Node) ([]impl.Node, int) { return plainPut(nodes, sealNode(2, inside)) })
		checkHead(t, with, k, 1, 7, true)
		if inside == 8 {
			checkRecord(t, with, k, 2, 1, 7, 1)
		} else {
			checkShut(t, with, k)
		}
	}
}

// What is no List of three, or has no TmSeal as its third: every place of an arena that has a record, but the record's own.
func TestP8WhatIsNoRecord(t *testing.T) {
	for _, c := range recordCases() {
		nodes := slices.Concat(threeSecrets, c.brings)
		for k := -1; k < len(nodes)-1; k++ {
			checkNoRecord(t, nodes, k)
		}
	}
	nodes, record := mustRecord(t, slices.Concat(threeSecrets, []impl.Node{hashNode(0), pubNode(0)}), 0, 1, 7, 1)
	parts, _ := plainParts(nodes, record, 3)
	epoch, seq, seal := parts[0], parts[1], parts[2]
	for _, list := range [][]int{
		{}, {epoch}, {seal}, {epoch, seq}, {epoch, seal}, {epoch, seq, seal, seal}, {epoch, seq, seal, epoch}, {epoch, epoch, seq, seal}, {record}, {epoch, seq, record, seal},
		{epoch, seal, seq}, {seal, epoch, seq}, {epoch, seal, seal}, {seal, seq, seal}, {seal, seal, seal},
		{3, seq, seal}, {epoch, 4, seal}, {0, seq, seal}, {record, seq, seal}, {epoch, record, seal}, {3, 4, seal},
		{epoch, seq, record}, {epoch, seq, 0}, {epoch, seq, 3}, {epoch, seq, 4}, {epoch, seq, epoch},
	} {
		with, k := plainList(nodes, list)
		checkNoRecord(t, with, k)
	}
	checkNoRecord(t, slices.Concat(nodes, []impl.Node{pairNode(seq, seal), pairNode(epoch, len(nodes))}), len(nodes)+1)
}

// A List ends with Atom 0 alone.
func TestP8ListsWithAnotherEnd(t *testing.T) {
	for _, end := range []impl.Node{atomNode(1), atomNode(999999), hashNode(0), secretAtom(9)} {
		nodes := slices.Concat(threeSecrets, []impl.Node{atomNode(1), atomNode(7), atomNode(0), pairNode(1, 5), pairNode(4, 6), pairNode(3, 7), sealNode(0, 8), end})
		at := slices.Index(nodes, end)
		nodes = append(nodes, pairNode(9, at))
		nodes = append(nodes, pairNode(4, len(nodes)-1))
		nodes = append(nodes, pairNode(3, len(nodes)-1))
		checkNoRecord(t, nodes, len(nodes)-1)
	}
}

// Places below 0 and past the end: as key, body and record.
func TestP8PlacesThatAreNone(t *testing.T) {
	nodes, record := mustRecord(t, threeSecrets, 0, 1, 7, 1)
	for _, has := range [][]impl.Node{nil, threeSecrets, nodes} {
		for _, k := range append(slices.Clone(outside), len(has), len(has)+1, len(has)+2, len(has)+3) {
			checkRefused(t, has, recordCall(k, 1, 7, 1), recordCall(0, 1, 7, k), recordCall(k, 1, 7, k), recordCall(k, 0, 0, 0), recordCall(0, 0, 0, k))
			checkNoRecord(t, has, k)
			checkBody(t, has, k, record, -1, false)
		}
	}
}

// Key and body must be right nodes of the arena that is handed in; what else is not right there is not asked after.
func TestP8KeyOrBodyThatIsNotRight(t *testing.T) {
	for _, wrong := range wrongNodes {
		nodes := slices.Concat(threeSecrets, []impl.Node{wrong})
		checkRefused(t, nodes, recordCall(3, 1, 7, 1), recordCall(0, 1, 7, 3), recordCall(3, 1, 7, 3))
		want := slices.Concat(nodes, []impl.Node{atomNode(1), atomNode(7), atomNode(0), pairNode(1, 6), pairNode(5, 7), pairNode(4, 8),
			sealNode(0, 9), pairNode(10, 6), pairNode(5, 11), pairNode(4, 12)})
		checkSecret(t, nodes, recordCall(0, 1, 7, 1), want, 13)
		checkRecord(t, want, 13, 0, 1, 7, 1)
	}
	forward := []impl.Node{hashNode(0), secretAtom(0), hashNode(2), pairNode(1, 4), atomNode(7)}
	for _, k := range []int{0, 2, 3} {
		checkRefused(t, forward, recordCall(k, 1, 7, 1), recordCall(1, 1, 7, k))
	}
	checkPlain(t, forward, recordCall(1, 1, 7, 4), recordCall(4, 1, 7, 1))
}

// recordCalls are calls at every place of an arena of that many nodes, and beside them.
func recordCalls(end int) []secretCall {
	var calls []secretCall
	for key := -1; key <= end+1; key++ {
		for body := -1; body <= end+1; body++ {
			for _, numbers := range [][2]int{{0, 0}, {1, 0}, {0, 1}, {1, 2}, {1, 7}, {8, 9999}, {9, 1}, {1, 10000}, {-1, 1}, {1, -1}} {
				calls = append(calls, recordCall(key, numbers[0], numbers[1], body))
			}
		}
	}
	return calls
}

// A node that is not right, wherever it stands in a record.
func TestP8WrongNodes(t *testing.T) {
	right, record := mustRecord(t, threeSecrets, 0, 1, 7, 1)
	for _, wrong := range wrongNodes {
		for at := range right {
			nodes := slices.Clone(right)
			nodes[at] = wrong
			checkAllRecords(t, nodes)
			checkPlain(t, nodes, recordCall(0, 1, 7, 1), recordCall(1, 1, 7, 0), recordCall(2, 1, 7, 2), recordCall(2, 0, 0, record))
			switch at {
			case 0, 1, 2: // neither a key nor a body that is not right is asked after
				checkHead(t, nodes, record, 1, 7, true)
				checkBody(t, nodes, 0, record, 1, true)
			case 6, 7, 8: // the List within the seal
				checkHead(t, nodes, record, 1, 7, true)
				checkShut(t, nodes, record)
			default:
				checkNoRecord(t, nodes, record)
			}
		}
		behind := slices.Concat(right, []impl.Node{wrong})
		checkRecord(t, behind, record, 0, 1, 7, 1)
		checkNoRecord(t, behind, len(right))
	}
	for _, kind := range []int{0, -1, 10, 1 << 32, impl.TmPair + 1<<32} {
		nodes := slices.Clone(right)
		nodes[record].Kind = kind
		checkNoRecord(t, nodes, record)
	}
}

// What a node has that its kind has not makes it none of its kind.
func TestP8NodesWithANumber(t *testing.T) {
	right, _ := mustRecord(t, threeSecrets, 0, 1, 7, 1)
	for at, n := range right {
		if n.Kind == impl.TmAtom {
			n.A = 1
		} else {
			n.Num = 1
		}
		nodes := slices.Clone(right)
		nodes[at] = n
		checkAllRecords(t, nodes)
		checkPlain(t, nodes, recordCall(0, 1, 7, 1), recordCall(1, 1, 7, 0), recordCall(2, 1, 7, 2))
	}
}

// Of nodes that are there twice the first one is found; a number is the same though its Atom is another one.
func TestP8NodesTwice(t *testing.T) {
	nodes := []impl.Node{secretAtom(0), secretAtom(1), atomNode(1), atomNode(7), atomNode(1), atomNode(7), atomNode(0), atomNode(0)}
	want := slices.Concat(nodes, []impl.Node{pairNode(1, 6), pairNode(3, 8), pairNode(2, 9), sealNode(0, 10), pairNode(11, 6), pairNode(3, 12), pairNode(2, 13)})
	checkSecret(t, nodes, recordCall(0, 1, 7, 1), want, 14)
	twice := slices.Concat(want, want[8:])
	checkSecret(t, twice, recordCall(0, 1, 7, 1), twice, 14)
	checkAllRecords(t, twice)

	other := slices.Concat(nodes, []impl.Node{pairNode(1, 6), pairNode(3, 8), pairNode(2, 9), sealNode(0, 10), pairNode(11, 7), pairNode(5, 12), pairNode(4, 13)})
	checkRecord(t, other, 14, 0, 1, 7, 1)
	checkAllRecords(t, other)

	keys := slices.Concat([]impl.Node{secretAtom(0), secretAtom(0)}, []impl.Node{atomNode(1), atomNode(7), atomNode(0), pairNode(1, 4), pairNode(3, 5), pairNode(2, 6), sealNode(1, 7), pairNode(8, 4), pairNode(3, 9), pairNode(2, 10)})
	checkRecord(t, keys, 11, 1, 1, 7, 1)
	checkSecret(t, keys, recordCall(1, 1, 7, 1), keys, 11)
	checkPlain(t, keys, recordCalls(len(keys))...)
}

func TestP8Room(t *testing.T) {
	for _, c := range recordCases() {
		checkRoom(t, c)
	}
}

// One of the Atoms, or a pair, is there, and what is behind it has room or not.
func TestP8RoomWithSomeThere(t *testing.T) {
	for _, first := range [][]impl.Node{{atomNode(0)}, {atomNode(1)}, {atomNode(7)}, {atomNode(7), atomNode(1)}, {atomNode(0), pairNode(1, 3)}, {atomNode(0), pairNode(2, 3), atomNode(7)}} {
		for room := range 11 {
			nodes := fullBut(room, first...)
			for _, c := range recordCases() {
				checkPlain(t, nodes, c.call)
			}
			end := len(nodes)
			checkRefused(t, nodes, recordCall(end, 1, 7, 1), recordCall(0, 1, 7, end), recordCall(0, 1, 7, end+1))
		}
	}
}

// A record at the very end of a full arena comes back, and also one in an arena that is too long.
func TestP8FullArena(t *testing.T) {
	nodes, record := mustRecord(t, fullBut(10), 0, 1, 7, 1)
	if len(nodes) != impl.MaxNodes || record != impl.MaxNodes-1 {
		t.Fatalf("a record at %d of %d nodes; want the last one of %d", record, len(nodes), impl.MaxNodes)
	}
	checkRecord(t, nodes, record, 0, 1, 7, 1)
	checkSecret(t, nodes, recordCall(0, 1, 7, 1), nodes, record)
	checkRefused(t, nodes, recordCall(0, 1, 8, 1), recordCall(0, 2, 7, 1), recordCall(2, 1, 7, 1), recordCall(0, 1, 7, 2))
	over := slices.Concat(nodes, []impl.Node{hashNode(0), hashNode(1)})
	checkRecord(t, over, record, 0, 1, 7, 1)
	checkSecret(t, over, recordCall(0, 1, 7, 1), over, record)
	checkRefused(t, over, recordCall(0, 1, 8, 1), recordCall(3000, 1, 7, 3001))
}

// drawRecordNode is often one of those of which records are made.
func drawRecordNode(draw *rand.Rand, k int) impl.Node {
	nums := []int{0, 0, 1, 1, 7, 8, 9, 9999, 10000}
	switch draw.Intn(8) {
	case 0:
		return drawNode(draw, k)
	case 1, 2:
		return atomNode(nums[draw.Intn(len(nums))])
	case 3:
		return sealNode(draw.Intn(k+1), draw.Intn(k+1))
	}
	return pairNode(draw.Intn(k+1), draw.Intn(k+1))
}

// Drawn arenas, many of them not right: every function answers as the plain way does.
func TestP8DrawnArenas(t *testing.T) {
	draw := rand.New(rand.NewSource(10))
	for range 150 {
		nodes := drawNodes(draw, 8, drawRecordNode)
		checkPlain(t, nodes, recordCalls(len(nodes))...)
		checkAllRecords(t, nodes)
	}
}

// Records of which one node is drawn anew: each place answers as the plain way does.
func TestP8DrawnRecords(t *testing.T) {
	draw := rand.New(rand.NewSource(11))
	for range 300 {
		nodes := slices.Clone(threeSecrets)
		for range 3 {
			key, body := draw.Intn(len(nodes)), draw.Intn(len(nodes))
			nodes, _ = mustRecord(t, nodes, key, draw.Intn(3), draw.Intn(3), body)
		}
		checkAllRecords(t, nodes)
		at := draw.Intn(len(nodes))
		nodes[at] = drawRecordNode(draw, at)
		checkAllRecords(t, nodes)
	}
}

func TestP8AnswersAreNewMemory(t *testing.T) {
	nodes, record := mustRecord(t, threeSecrets, 0, 1, 7, 1)
	for _, end := range []int{3, 6, len(nodes)} {
		checkNewMemory(t, nodes[:end], recordCalls(end))
	}
	checkOnlyRead(t, nodes, func(a impl.Arena, k int) {
		impl.RecordHead(a, k)
		impl.OpenRecord(a, k, record)
		impl.OpenRecord(a, 0, k)
	})
}
