package tests

import (
	"fmt"
	"math"
	"math/rand"
	"slices"
	"testing"

	"loop.example/g00466/impl"
)

// partCounts are how many parts a letter of each kind has.
var partCounts = map[int]int{71: 2, 72: 1, 73: 2, 74: 1, 75: 1, 76: 2}

// plainWords puts Atoms of these numbers, one behind the other, and the List of them and of these terms; nothing when one of all that can't be.
func plainWords(nodes []impl.Node, nums []int, terms ...int) ([]impl.Node, int) {
	with, list, k := nodes, []int{}, -1
	for _, n := range nums {
		if with, k = plainAtom(with, n); k < 0 {
			return nodes, -1
		}
		list = append(list, k)
	}
	if with, k = plainList(with, append(list, terms...)); k < 0 {
		return nodes, -1
	}
	return with, k
}

func plainHelloTerm(nodes []impl.Node, h impl.Hello) ([]impl.Node, int) {
	return plainWords(nodes, []int{61, h.Mode, h.Name}, h.Nonce, h.Pub)
}

func plainNonce(nodes []impl.Node, k int) bool {
	n, ok := plainNum(nodes, k)
	return ok && n >= 1000
}

func plainPub(nodes []impl.Node, k int) bool {
	return plainNodeOk(nodes, k) && nodes[k].Kind == impl.TmPub
}

// helloTold, serverTold and letterTold are what HelloIn, ServerIn and LetterIn answer.
type helloTold struct {
	hello impl.Hello
	ok    bool
}

type serverTold struct {
	nonce, pub int
	ok         bool
}

type letterTold struct {
	kind  int
	parts []int
}

var noServer = serverTold{-1, -1, false}

func plainHelloIn(nodes []impl.Node, k int) helloTold {
	parts, ok := plainParts(nodes, k, 5)
	if !ok {
		return helloTold{}
	}
	first, is := plainNum(nodes, parts[0])
	mode, hasMode := plainNum(nodes, parts[1])
	name, hasName := plainNum(nodes, parts[2])
	if !is || first != 61 || !hasMode || mode < 1 || mode > 2 || !hasName || name > 9 || !plainNonce(nodes, parts[3]) || !plainPub(nodes, parts[4]) {
		return helloTold{}
	}
	return helloTold{impl.Hello{Mode: mode, Name: name, Nonce: parts[3], Pub: parts[4]}, true}
}

func plainServerIn(nodes []impl.Node, k int) serverTold {
	parts, ok := plainParts(nodes, k, 3)
	if !ok || !plainNonce(nodes, parts[1]) || !plainPub(nodes, parts[2]) {
		return noServer
	}
	if first, is := plainNum(nodes, parts[0]); !is || first != 62 {
		return noServer
	}
	return serverTold{parts[1], parts[2], true}
}

func plainLetterIn(nodes []impl.Node, k int) letterTold {
	for kind, count := range partCounts {
		parts, ok := plainParts(nodes, k, count+1)
		if !ok {
			continue
		}
		if first, is := plainNum(nodes, parts[0]); !is || first != kind {
			continue
		}
		if _, is := plainNum(nodes, parts[1]); kind == 76 && !is {
			continue
		}
		return letterTold{kind, parts[1:]}
	}
	return letterTold{}
}

func helloCall(h impl.Hello) secretCall {
	return secretCall{fmt.Sprintf("HelloTerm(.., %v)", h),
		func(a impl.Arena) (impl.Arena, int) { return impl.HelloTerm(a, h) },
		func(nodes []impl.Node) ([]impl.Node, int) { return plainHelloTerm(nodes, h) }}
}

func helloOf(mode, name, nonce, pub int) secretCall {
	return helloCall(impl.Hello{Mode: mode, Name: name, Nonce: nonce, Pub: pub})
}

func serverCall(nonce, pub int) secretCall {
	return secretCall{fmt.Sprintf("ServerTerm(.., %d, %d)", nonce, pub),
		func(a impl.Arena) (impl.Arena, int) { return impl.ServerTerm(a, nonce, pub) },
		func(nodes []impl.Node) ([]impl.Node, int) { return plainWords(nodes, []int{62}, nonce, pub) }}
}

func letterCall(kind int, parts ...int) secretCall {
	return secretCall{fmt.Sprintf("LetterOf(.., %d, %s of %d)", kind, brief(parts), len(parts)),
		func(a impl.Arena) (impl.Arena, int) { return impl.LetterOf(a, kind, parts) },
		func(nodes []impl.Node) ([]impl.Node, int) { return plainWords(nodes, []int{kind}, parts...) }}
}

func checkHelloIn(t *testing.T, nodes []impl.Node, k int, want helloTold) {
	t.Helper()
	h, ok := impl.HelloIn(arenaOf(nodes...), k)
	if got := (helloTold{h, ok}); got != want {
		t.Fatalf("HelloIn(%s of %d nodes, %d) = %v; want %v", brief(nodes), len(nodes), k, got, want)
	}
}

func checkServerIn(t *testing.T, nodes []impl.Node, k int, want serverTold) {
	t.Helper()
	nonce, pub, ok := impl.ServerIn(arenaOf(nodes...), k)
	if got := (serverTold{nonce, pub, ok}); got != want {
		t.Fatalf("ServerIn(%s of %d nodes, %d) = %v; want %v", brief(nodes), len(nodes), k, got, want)
	}
}

func checkLetterIn(t *testing.T, nodes []impl.Node, k int, want letterTold) {
	t.Helper()
	kind, parts := impl.LetterIn(arenaOf(nodes...), k)
	if kind != want.kind || !slices.Equal(parts, want.parts) {
		t.Fatalf("LetterIn(%s of %d nodes, %d) = %d, %v; want %v", brief(nodes), len(nodes), k, kind, parts, want)
	}
}

// toldWords are the first words of an arena, by their places.
type toldWords struct {
	hellos  map[int]impl.Hello
	servers map[int][2]int
	letters map[int]letterTold
}

// checkWords asks for just these: every other place of the arena, and those beside it, tell nothing.
func checkWords(t *testing.T, nodes []impl.Node, want toldWords) {
	t.Helper()
	for k := -2; k <= len(nodes)+2; k++ {
		h, isHello := want.hellos[k]
		checkHelloIn(t, nodes, k, helloTold{h, isHello})
		server := noServer
		if s, is := want.servers[k]; is {
			server = serverTold{s[0], s[1], true}
		}
		checkServerIn(t, nodes, k, server)
		checkLetterIn(t, nodes, k, want.letters[k])
	}
}

func checkNoWords(t *testing.T, nodes []impl.Node) {
	t.Helper()
	checkWords(t, nodes, toldWords{})
}

func checkOneHello(t *testing.T, nodes []impl.Node, k int, h impl.Hello) {
	t.Helper()
	checkWords(t, nodes, toldWords{hellos: map[int]impl.Hello{k: h}})
}

func checkOneServer(t *testing.T, nodes []impl.Node, k, nonce, pub int) {
	t.Helper()
	checkWords(t, nodes, toldWords{servers: map[int][2]int{k: {nonce, pub}}})
}

func checkOneLetter(t *testing.T, nodes []impl.Node, k, kind int, parts ...int) {
	t.Helper()
	checkWords(t, nodes, toldWords{letters: map[int]letterTold{k: {kind, parts}}})
}

// checkWordsPlain holds every place of an arena, and some beside them, against the plain way.
func checkWordsPlain(t *testing.T, nodes []impl.Node) {
	t.Helper()
	for k := -1; k <= len(nodes)+1; k++ {
		checkHelloIn(t, nodes, k, plainHelloIn(nodes, k))
		checkServerIn(t, nodes, k, plainServerIn(nodes, k))
		checkLetterIn(t, nodes, k, plainLetterIn(nodes, k))
	}
}

func mustWords(t *testing.T, nodes []impl.Node, c secretCall) ([]impl.Node, int) {
	t.Helper()
	b, k := mustMake(t, arenaOf(nodes...), c)
	return b.Nodes, k
}

// wordParts are what first words are made of: two secrets, a nonce, the pubs of both, and an Atom that is no secret.
var wordParts = []impl.Node{atomNode(5000), atomNode(5001), atomNode(6000), pubNode(0), pubNode(1), atomNode(999)}

// helloCases bring their nodes behind three secrets, of which two stand where nonce and pub do.
func helloCases() []secretCase {
	of := func(c secretCall, brings ...impl.Node) secretCase { return secretCase{c, brings} }
	return []secretCase{
		of(helloOf(1, 2, 1, 0), atomNode(61), atomNode(1), atomNode(2), atomNode(0), pairNode(0, 6), pairNode(1, 7), pairNode(5, 8), pairNode(4, 9), pairNode(3, 10)),
		of(helloOf(2, 9, 0, 2), atomNode(61), atomNode(2), atomNode(9), atomNode(0), pairNode(2, 6), pairNode(0, 7), pairNode(5, 8), pairNode(4, 9), pairNode(3, 10)),
		of(helloOf(2, 2, 0, 2), atomNode(61), atomNode(2), atomNode(0), pairNode(2, 5), pairNode(0, 6), pairNode(4, 7), pairNode(4, 8), pairNode(3, 9)),
		of(helloOf(2, 0, 1, 1), atomNode(61), atomNode(2), atomNode(0), pairNode(1, 5), pairNode(1, 6), pairNode(5, 7), pairNode(4, 8), pairNode(3, 9)),
		of(helloOf(0, 0, 1, 2), atomNode(61), atomNode(0), pairNode(2, 4), pairNode(1, 5), pairNode(4, 6), pairNode(4, 7), pairNode(3, 8)),
		of(helloOf(0, 3, 1, 2), atomNode(61), atomNode(0), atomNode(3), pairNode(2, 4), pairNode(1, 6), pairNode(5, 7), pairNode(4, 8), pairNode(3, 9)),
		of(helloOf(61, 61, 1, 2), atomNode(61), atomNode(0), pairNode(2, 4), pairNode(1, 5), pairNode(3, 6), pairNode(3, 7), pairNode(3, 8)),
		of(helloOf(3, 10, 1, 2), atomNode(61), atomNode(3), atomNode(10), atomNode(0), pairNode(2, 6), pairNode(1, 7), pairNode(5, 8), pairNode(4, 9), pairNode(3, 10)),
		of(helloOf(999999, 1000, 1, 2), atomNode(61), atomNode(999999), atomNode(0), pairNode(2, 5), pairNode(1, 6), pairNode(0, 7), pairNode(4, 8), pairNode(3, 9)),
	}
}

func serverCases() []secretCase {
	of := func(c secretCall, brings ...impl.Node) secretCase { return secretCase{c, brings} }
	return []secretCase{
		of(serverCall(1, 0), atomNode(62), atomNode(0), pairNode(0, 4), pairNode(1, 5), pairNode(3, 6)),
		of(serverCall(0, 1), atomNode(62), atomNode(0), pairNode(1, 4), pairNode(0, 5), pairNode(3, 6)),
		of(serverCall(2, 2), atomNode(62), atomNode(0), pairNode(2, 4), pairNode(2, 5), pairNode(3, 6)),
	}
}

func letterCases() []secretCase {
	of := func(c secretCall, brings ...impl.Node) secretCase { return secretCase{c, brings} }
	var cases []secretCase
	for kind := 71; kind <= 76; kind++ {
		if partCounts[kind] == 1 {
			cases = append(cases, of(letterCall(kind, 2), atomNode(kind), atomNode(0), pairNode(2, 4), pairNode(3, 5)))
		} else {
			cases = append(cases, of(letterCall(kind, 2, 0), atomNode(kind), atomNode(0), pairNode(0, 4), pairNode(2, 5), pairNode(3, 6)))
		}
	}
	return append(cases,
		of(letterCall(71), atomNode(71), atomNode(0), pairNode(3, 4)),
		of(letterCall(76, 1, 1, 1), atomNode(76), atomNode(0), pairNode(1, 4), pairNode(1, 5), pairNode(1, 6), pairNode(3, 7)),
		of(letterCall(0), atomNode(0), pairNode(3, 3)),
		of(letterCall(0, 1), atomNode(0), pairNode(1, 3), pairNode(3, 4)),
		of(letterCall(1000, 1), atomNode(0), pairNode(1, 3), pairNode(0, 4)),
		of(letterCall(999999, 1), atomNode(999999), atomNode(0), pairNode(1, 4), pairNode(3, 5)))
}

func wordCases() []secretCase { return slices.Concat(helloCases(), serverCases(), letterCases()) }

func TestP11Constants(t *testing.T) {
	got := []int{impl.MdCert, impl.MdPsk, impl.LtHello, impl.LtRetry, impl.LtServer, impl.LtClient, impl.LtAck, impl.LtRecord}
	if want := []int{1, 2, 71, 72, 73, 74, 75, 76}; !slices.Equal(got, want) {
		t.Errorf("modes and kinds of letters are %v; want %v", got, want)
	}
}

func TestP11TermsNodeByNode(t *testing.T) {
	for _, c := range wordCases() {
		checkNodeByNode(t, c)
	}
}

// In an arena of nothing places can only be those of what the call itself brings.
func TestP11ArenaOfNothing(t *testing.T) {
	checkSecret(t, nil, letterCall(71), []impl.Node{atomNode(71), atomNode(0), pairNode(0, 1)}, 2)
	checkSecret(t, nil, letterCall(0), []impl.Node{atomNode(0), pairNode(0, 0)}, 1)
	checkSecret(t, nil, letterCall(76, 0, 1), []impl.Node{atomNode(76), atomNode(0), pairNode(1, 1), pairNode(0, 2), pairNode(0, 3)}, 4)
	checkSecret(t, nil, letterCall(76, 2, 1), []impl.Node{atomNode(76), atomNode(0), pairNode(1, 1), pairNode(2, 2), pairNode(0, 3)}, 4)
	checkRefused(t, nil, letterCall(76, 1, 2), letterCall(76, 3, 1), letterCall(76, -1), letterCall(72, 2), letterCall(-1), letterCall(1000000))
	checkSecret(t, nil, serverCall(0, 1), []impl.Node{atomNode(62), atomNode(0), pairNode(1, 1), pairNode(0, 2), pairNode(0, 3)}, 4)
	checkSecret(t, nil, serverCall(2, 0), []impl.Node{atomNode(62), atomNode(0), pairNode(0, 1), pairNode(2, 2), pairNode(0, 3)}, 4)
	checkRefused(t, nil, serverCall(0, 2), serverCall(3, 0), serverCall(-1, 0), serverCall(0, -1))
	checkSecret(t, nil, helloOf(1, 2, 2, 3), []impl.Node{atomNode(61), atomNode(1), atomNode(2), atomNode(0), pairNode(3, 3), pairNode(2, 4), pairNode(2, 5), pairNode(1, 6), pairNode(0, 7)}, 8)
	checkSecret(t, nil, helloOf(1, 2, 4, 0), []impl.Node{atomNode(61), atomNode(1), atomNode(2), atomNode(0), pairNode(0, 3), pairNode(4, 4), pairNode(2, 5), pairNode(1, 6), pairNode(0, 7)}, 8)
	checkRefused(t, nil, helloOf(1, 2, 5, 0), helloOf(1, 2, 0, 4), helloOf(1, 2, -1, 0), helloOf(1, 2, 0, -1), helloOf(-1, 2, 0, 0), helloOf(1, -1, 0, 0))
	checkNoWords(t, nil)
}

// One that has others: what is made stands behind them, and of what it is made of only what is just that counts.
func TestP11AmongOthers(t *testing.T) {
	others := []impl.Node{atomNode(60), atomNode(63), atomNode(7), atomNode(70), atomNode(77), pubNode(0), pubNode(1), pairNode(0, 1), pairNode(1, 2), sealNode(0, 1), macNode(0, 1)}
	for _, c := range wordCases() {
		checkAmong(t, c, others...)
	}
}

// Some are there already, in another order than they would be made in.
func TestP11SomeAreThere(t *testing.T) {
	nodes := slices.Concat(threeSecrets, []impl.Node{atomNode(0), atomNode(4), atomNode(1), atomNode(61)})
	want := slices.Concat(nodes, []impl.Node{pairNode(0, 3), pairNode(1, 7), pairNode(4, 8), pairNode(5, 9), pairNode(6, 10)})
	checkSecret(t, nodes, helloOf(1, 4, 1, 0), want, 11)
	nodes = slices.Concat(threeSecrets, []impl.Node{atomNode(0), pairNode(0, 3), pairNode(1, 4)})
	want = slices.Concat(nodes, []impl.Node{atomNode(61), atomNode(1), atomNode(4), pairNode(8, 5), pairNode(7, 9), pairNode(6, 10)})
	checkSecret(t, nodes, helloOf(1, 4, 1, 0), want, 11)
	checkSecret(t, nodes, serverCall(1, 0), slices.Concat(nodes, []impl.Node{atomNode(62), pairNode(6, 5)}), 7)
	checkSecret(t, nodes, letterCall(73, 1, 0), slices.Concat(nodes, []impl.Node{atomNode(73), pairNode(6, 5)}), 7)
	checkSecret(t, nodes, letterCall(74, 0), slices.Concat(nodes, []impl.Node{atomNode(74), pairNode(6, 4)}), 7)
	for _, c := range wordCases() {
		for _, first := range []impl.Node{atomNode(0), atomNode(1), atomNode(2), atomNode(61), atomNode(62), atomNode(71), atomNode(76), pubNode(0)} {
			nodes := slices.Concat(threeSecrets, []impl.Node{first})
			checkPlain(t, nodes, c.call)
			checkPlain(t, slices.Concat(nodes, []impl.Node{pairNode(0, 3), pairNode(1, 4), pairNode(3, 5)}), c.call)
		}
	}
}

// Every hello that is one comes back, at its own place and nowhere else.
func TestP11HellosComeBack(t *testing.T) {
	for mode := 1; mode <= 2; mode++ {
		for name := range 10 {
			for _, h := range []impl.Hello{{Mode: mode, Name: name, Nonce: 2, Pub: 3}, {Mode: mode, Name: name, Nonce: 2, Pub: 4}, {Mode: mode, Name: name, Nonce: 0, Pub: 3}, {Mode: mode, Name: name, Nonce: 1, Pub: 3}} {
				nodes, k := mustWords(t, wordParts, helloCall(h))
				checkOneHello(t, nodes, k, h)
				checkSecret(t, nodes, helloCall(h), nodes, k)
			}
		}
	}
}

func TestP11ServersWordsComeBack(t *testing.T) {
	for _, nonce := range []int{0, 1, 2} {
		for _, pub := range []int{3, 4} {
			nodes, k := mustWords(t, wordParts, serverCall(nonce, pub))
			checkOneServer(t, nodes, k, nonce, pub)
			checkSecret(t, nodes, serverCall(nonce, pub), nodes, k)
		}
	}
}

// Letters of each kind, with parts of any kind but where an Atom is asked for.
func TestP11LettersComeBack(t *testing.T) {
	nodes := slices.Concat(wordParts, []impl.Node{hashNode(0), kdfNode(0, 1), dhNode(0, 1), sealNode(0, 1), signNode(0, 1), macNode(0, 1), pairNode(0, 1), atomNode(0), atomNode(71)})
	for kind, count := range partCounts {
		for x := range nodes {
			if count == 1 {
				with, k := mustWords(t, nodes, letterCall(kind, x))
				checkOneLetter(t, with, k, kind, x)
				continue
			}
			for y := range nodes {
				with, k := mustWords(t, nodes, letterCall(kind, x, y))
				if kind == impl.LtRecord && nodes[x].Kind != impl.TmAtom {
					checkNoWords(t, with)
				} else {
					checkOneLetter(t, with, k, kind, x, y)
				}
			}
		}
	}
}

// As they are said: a hello without a cookie, one with it, what comes back, a part, an ack and a record, all in one arena. Each is read as what it is, and as nothing else.
func TestP11AllFirstWordsInOneArena(t *testing.T) {
	want := toldWords{hellos: map[int]impl.Hello{}, servers: map[int][2]int{}, letters: map[int]letterTold{}}
	nodes := wordParts
	put := func(c secretCall) int {
		var k int
		nodes, k = mustWords(t, nodes, c)
		return k
	}
	letter := func(kind int, parts ...int) { want.letters[put(letterCall(kind, parts...))] = letterTold{kind, parts} }
	var hellos []int
	for _, h := range []impl.Hello{{Mode: 1, Name: 1, Nonce: 2, Pub: 3}, {Mode: 2, Name: 1, Nonce: 2, Pub: 3}, {Mode: 1, Name: 2, Nonce: 2, Pub: 3}, {Mode: 1, Name: 1, Nonce: 1, Pub: 3}, {Mode: 1, Name: 1, Nonce: 2, Pub: 4}} {
		k := put(helloCall(h))
		want.hellos[k] = h
		hellos = append(hellos, k)
	}
	server := put(serverCall(1, 4))
	want.servers[server] = [2]int{1, 4}
	nought, seven := put(secretCall{"Atom(.., 0)", func(a impl.Arena) (impl.Arena, int) { return impl.Atom(a, 0) }, nil}), put(longCall(7))
	cookie := put(cookieCall(9000, 3, hellos[0]))
	record := put(recordCall(0, 1, 2, seven))
	for _, h := range hellos {
		letter(impl.LtHello, h, nought)
		letter(impl.LtHello, h, cookie)
	}
	letter(impl.LtRetry, cookie)
	letter(impl.LtServer, server, put(sideCall(0, 2)))
	letter(impl.LtClient, put(sideCall(0, 1)))
	letter(impl.LtAck, put(sideCall(1, 1)))
	letter(impl.LtRecord, seven, record)
	if len(want.hellos) != 5 || len(want.letters) != 15 || !impl.ArenaOk(arenaOf(nodes...)) {
		t.Fatalf("%d hellos and %d letters, in an arena that is right: %v", len(want.hellos), len(want.letters), impl.ArenaOk(arenaOf(nodes...)))
	}
	checkWords(t, nodes, want)
}

// aloneHello is Hello{2, 4, the Atom 6000 at 4, the TmPub at 6}: all that it is made of stands ahead of its pairs.
func aloneHello() ([]impl.Node, impl.Hello) {
	return []impl.Node{atomNode(61), atomNode(2), atomNode(4), atomNode(0), atomNode(6000), atomNode(5000), pubNode(5), pairNode(6, 3), pairNode(4, 7), pairNode(2, 8), pairNode(1, 9), pairNode(0, 10)},
		impl.Hello{Mode: 2, Name: 4, Nonce: 4, Pub: 6}
}

// aloneServer is of the Atom 6000 at 2 and the TmPub at 4.
func aloneServer() []impl.Node {
	return []impl.Node{atomNode(62), atomNode(0), atomNode(6000), atomNode(5000), pubNode(3), pairNode(4, 1), pairNode(2, 5), pairNode(0, 6)}
}

// aloneLetter is one of LtRecord with Atom 3 at 2 and a TmHash at 3.
func aloneLetter() []impl.Node {
	return []impl.Node{atomNode(76), atomNode(0), atomNode(3), hashNode(2), pairNode(3, 1), pairNode(2, 4), pairNode(0, 5)}
}

func TestP11WhatIsAloneIsRight(t *testing.T) {
	nodes, h := aloneHello()
	checkOneHello(t, nodes, 11, h)
	checkSecret(t, nodes[:7], helloCall(h), nodes, 11)
	checkOneServer(t, aloneServer(), 7, 2, 4)
	checkSecret(t, aloneServer()[:5], serverCall(2, 4), aloneServer(), 7)
	checkOneLetter(t, aloneLetter(), 6, 76, 2, 3)
	checkSecret(t, aloneLetter()[:4], letterCall(76, 2, 3), aloneLetter(), 6)
}

// Modes and names at their limits: HelloTerm tells any of which there is an Atom, and HelloIn reads those that there are.
func TestP11ModesAndNames(t *testing.T) {
	numbers := []int{0, 1, 2, 3, 4, 8, 9, 10, 11, 60, 61, 999, 1000, 999999}
	for _, mode := range numbers {
		for _, name := range numbers {
			h := impl.Hello{Mode: mode, Name: name, Nonce: 2, Pub: 3}
			nodes, k := mustWords(t, wordParts, helloCall(h))
			if (mode == impl.MdCert || mode == impl.MdPsk) && isSomebody(name) {
				checkOneHello(t, nodes, k, h)
			} else {
				checkNoWords(t, nodes)
			}
		}
	}
	for _, number := range []int{-1, -2, math.MinInt, 1000000, 1 << 32, 1<<32 + 1, math.MaxInt} {
		for _, nodes := range [][]impl.Node{nil, wordParts, fullBut(20)} {
			checkRefused(t, nodes, helloOf(number, 1, 2, 3), helloOf(1, number, 2, 3), helloOf(number, number, 2, 3))
		}
	}
}

// A nonce is an Atom of FirstSecret or more.
func TestP11Nonces(t *testing.T) {
	for _, num := range []int{0, 1, 61, 127, 998, 999, 1000, 1001, 5000, 999998, 999999} {
		nodes := []impl.Node{atomNode(num), atomNode(5555), pubNode(1)}
		h := impl.Hello{Mode: 1, Name: 2, Nonce: 0, Pub: 2}
		hello, k := mustWords(t, nodes, helloCall(h))
		server, s := mustWords(t, nodes, serverCall(0, 2))
		if num >= impl.FirstSecret {
			checkOneHello(t, hello, k, h)
			checkOneServer(t, server, s, 0, 2)
		} else {
			checkNoWords(t, hello)
			checkNoWords(t, server)
		}
	}
}

// A nonce that is no Atom, or a pub that is no TmPub: both are said, and not read.
func TestP11NoncesAndPubsOfOtherKinds(t *testing.T) {
	for _, other := range []impl.Node{hashNode(0), kdfNode(0, 1), sealNode(0, 1), dhNode(0, 1), signNode(0, 1), macNode(0, 1), pairNode(0, 1), pubNode(2), atomNode(7)} {
		nodes := slices.Concat(wordParts, []impl.Node{other})
		for _, c := range [][2]int{{6, 3}, {2, 6}, {6, 6}, {3, 2}, {3, 3}, {2, 2}, {5, 3}, {2, 5}} {
			if c == [2]int{2, 6} && other.Kind == impl.TmPub {
				continue
			}
			with, _ := mustWords(t, nodes, helloOf(1, 2, c[0], c[1]))
			checkNoWords(t, with)
			with, _ = mustWords(t, nodes, serverCall(c[0], c[1]))
			checkNoWords(t, with)
		}
	}
}

// Kinds from LtHello to LtRecord, and each with as many parts as it has, not with one too few or too many.
func TestP11LettersOfAnotherForm(t *testing.T) {
	for _, kind := range []int{0, 1, 60, 61, 62, 69, 70, 71, 72, 73, 74, 75, 76, 77, 78, 1000, 999999} {
		for count := range 6 {
			parts := []int{0, 1, 2, 3, 4}[:count]
			nodes, k := mustWords(t, wordParts, letterCall(kind, parts...))
			if count == partCounts[kind] && count > 0 {
				checkOneLetter(t, nodes, k, kind, parts...)
			} else {
				checkNoWords(t, nodes)
			}
		}
	}
	for _, kind := range []int{-1, -71, math.MinInt, 1000000, 71 + 1<<32, math.MaxInt} {
		checkRefused(t, wordParts, letterCall(kind), letterCall(kind, 0), letterCall(kind, 0, 1))
		checkRefused(t, nil, letterCall(kind))
	}
}

// What LetterOf makes of other first numbers and of what they go with is what HelloTerm and ServerTerm make.
func TestP11FirstWordsAsLetters(t *testing.T) {
	nodes := slices.Concat(wordParts, []impl.Node{atomNode(1), atomNode(2)})
	hello, k := mustWords(t, nodes, helloOf(1, 2, 2, 3))
	checkSecret(t, hello, letterCall(61, 6, 7, 2, 3), hello, k)
	server, s := mustWords(t, nodes, serverCall(2, 3))
	checkSecret(t, server, letterCall(62, 2, 3), server, s)
	checkOneServer(t, server, s, 2, 3)
}

// The first part of a record's letter tells whose it is by a number; any number will do, and the second part is any term.
func TestP11RecordsWithoutAnAtom(t *testing.T) {
	for _, num := range []int{0, 1, 9, 999, 1000, 999999} {
		nodes := aloneLetter()
		nodes[2] = atomNode(num)
		checkOneLetter(t, nodes, 6, 76, 2, 3)
	}
	for _, other := range []impl.Node{hashNode(0), pubNode(0), pairNode(0, 1), pairNode(1, 1), sealNode(0, 1), macNode(0, 1), kdfNode(0, 0), signNode(0, 0), dhNode(0, 1)} {
		nodes := aloneLetter()
		nodes[2] = other
		checkNoWords(t, nodes)
		for _, kind := range []int{71, 73} { // no Atom is asked for
			nodes[0] = atomNode(kind)
			checkOneLetter(t, nodes, 6, kind, 2, 3)
		}
	}
}

// Lists that begin with another Atom, or with none.
func TestP11OtherBeginnings(t *testing.T) {
	for _, other := range []impl.Node{atomNode(0), atomNode(1), atomNode(60), atomNode(63), atomNode(70), atomNode(77), atomNode(999999), hashNode(0), atomNode(-1), {}, {Kind: impl.TmAtom, Num: 61, A: 1}, {Kind: impl.TmAtom, Num: 62, B: 1}} {
		hello, _ := aloneHello()
		server, letter := aloneServer(), aloneLetter()
		hello[0], server[0], letter[0] = other, other, other
		checkNoWords(t, hello)
		checkNoWords(t, server)
		checkNoWords(t, letter)
	}
	hello, _ := aloneHello()
	server, letter := aloneServer(), aloneLetter()
	hello[0], server[0], letter[0] = atomNode(62), atomNode(61), atomNode(62)
	checkNoWords(t, hello)
	checkNoWords(t, server)
	checkNoWords(t, letter)
	server[0] = atomNode(76) // a letter then
	checkOneLetter(t, server, 7, 76, 2, 4)
}

// Each node of what is read is another one.
func TestP11PartsThatAreOthers(t *testing.T) {
	_, h := aloneHello()
	for at, others := range map[int][]impl.Node{
		1:  {atomNode(0), atomNode(3), atomNode(61), hashNode(0), pubNode(0), pairNode(0, 0)},
		2:  {atomNode(10), atomNode(61), atomNode(6000), hashNode(0), pubNode(0), pairNode(0, 0)},
		3:  {atomNode(1), atomNode(61), hashNode(0), pubNode(0), pairNode(0, 0)},
		4:  {atomNode(999), atomNode(0), hashNode(0), pubNode(0), pairNode(0, 0)},
		6:  {atomNode(5000), atomNode(0), hashNode(5), signNode(5, 5), dhNode(5, 5), pairNode(5, 5)},
		7:  {pairNode(6, 4), pairNode(3, 6), pairNode(4, 3), kdfNode(6, 3), atomNode(0), pubNode(5)},
		8:  {pairNode(6, 7), pairNode(4, 3), pairNode(7, 4), macNode(4, 7), atomNode(0)},
		9:  {pairNode(4, 8), pairNode(2, 7), pairNode(8, 2), sealNode(2, 8), atomNode(0)},
		10: {pairNode(0, 9), pairNode(1, 8), pairNode(9, 1), kdfNode(1, 9), atomNode(0)},
		11: {pairNode(1, 10), pairNode(10, 0), pairNode(0, 9), signNode(0, 10), kdfNode(0, 10), hashNode(10)},
	} {
		for _, other := range others {
			nodes, _ := aloneHello()
			nodes[at] = other
			checkNoWords(t, nodes)
			checkPlain(t, nodes, helloCall(h), serverCall(4, 6), letterCall(71, 11, 3))
		}
	}
	for at, others := range map[int][]impl.Node{
		1: {atomNode(1), atomNode(62), hashNode(0), pairNode(0, 0)},
		2: {atomNode(999), hashNode(0), pubNode(0), pairNode(0, 0)},
		4: {atomNode(5000), hashNode(3), signNode(3, 3), kdfNode(3, 3)},
		5: {pairNode(1, 4), pairNode(2, 1), kdfNode(4, 1), atomNode(0)},
		6: {pairNode(4, 5), pairNode(5, 2), pairNode(2, 1), macNode(2, 5), atomNode(0)},
		7: {pairNode(2, 6), pairNode(6, 0), pairNode(0, 5), sealNode(0, 6), signNode(0, 6), hashNode(6)},
	} {
		for _, other := range others {
			nodes := aloneServer()
			nodes[at] = other
			checkNoWords(t, nodes)
			checkPlain(t, nodes, serverCall(2, 4), letterCall(73, 7, 1))
		}
	}
	for at, others := range map[int][]impl.Node{
		1: {atomNode(1), atomNode(76), hashNode(0), pairNode(0, 0)},
		4: {pairNode(1, 3), kdfNode(3, 1), atomNode(0), hashNode(3)},
		5: {pairNode(4, 2), pairNode(2, 1), macNode(2, 4), atomNode(0)},
		6: {pairNode(2, 5), pairNode(5, 0), pairNode(0, 4), sealNode(0, 5), hashNode(5)},
	} {
		for _, other := range others {
			nodes := aloneLetter()
			nodes[at] = other
			checkNoWords(t, nodes)
			checkPlain(t, nodes, letterCall(76, 2, 3), letterCall(72, 6))
		}
	}
}

// Lists of the right parts in another number or order, and with another end.
func TestP11ListsThatAreOthers(t *testing.T) {
	base, h := aloneHello()
	for _, list := range [][]int{
		{}, {0}, {0, 1}, {0, 1, 2}, {0, 1, 2, 4}, {0, 1, 2, 6}, {1, 2, 4, 6}, {0, 1, 2, 4, 6, 6}, {0, 1, 2, 4, 6, 3}, {0, 1, 2, 4, 4, 6}, {0, 1, 1, 2, 4, 6}, {0, 0, 1, 2, 4, 6},
		{0, 2, 1, 4, 6}, {0, 1, 4, 2, 6}, {0, 1, 2, 6, 4}, {1, 0, 2, 4, 6}, {6, 4, 2, 1, 0}, {0, 0, 2, 4, 6}, {0, 1, 0, 4, 6}, {0, 1, 2, 2, 6}, {0, 1, 2, 4, 5}, {0, 1, 2, 4, 11}, {0, 1, 2, 11, 6}, {11}, {0, 4, 6},
	} {
		nodes, k := plainList(base, list)
		if k < 0 {
			t.Fatalf("no List of %v", list)
		}
		checkOneHello(t, nodes, 11, h)
	}
	base = aloneServer()
	for _, list := range [][]int{{}, {0}, {0, 2}, {0, 4}, {2, 4}, {0, 2, 4, 4}, {0, 2, 4, 1}, {0, 0, 2, 4}, {0, 4, 2}, {2, 0, 4}, {4, 2, 0}, {0, 2, 2}, {0, 4, 4}, {0, 3, 3}, {0, 2, 3}, {7}, {0, 7, 4}} {
		nodes, k := plainList(base, list)
		if k < 0 {
			t.Fatalf("no List of %v", list)
		}
		checkOneServer(t, nodes, 7, 2, 4)
	}
	for kind, count := range partCounts { // pairs that end with another Atom, with none, or with the parts themselves
		first := []impl.Node{atomNode(kind), atomNode(1), atomNode(0), hashNode(0)}
		for _, end := range []int{0, 1, 3} {
			nodes := slices.Clone(first)
			for range count {
				nodes = append(nodes, pairNode(1, end))
				end = len(nodes) - 1
			}
			checkNoWords(t, append(nodes, pairNode(0, end)))
		}
	}
}

func TestP11PlacesThatAreNone(t *testing.T) {
	hello, _ := aloneHello()
	for _, has := range [][]impl.Node{nil, threeSecrets, hello, aloneServer(), aloneLetter()} {
		for _, k := range append(slices.Clone(outside), len(has), len(has)+1, len(has)+9, 11+1<<32, -11, -12) {
			checkHelloIn(t, has, k, helloTold{})
			checkServerIn(t, has, k, noServer)
			checkLetterIn(t, has, k, letterTold{})
		}
	}
	for _, has := range [][]impl.Node{nil, threeSecrets, wordParts} {
		for _, k := range append(slices.Clone(outside), len(has)+9, len(has)+20, 1<<32) {
			checkRefused(t, has, helloOf(1, 2, k, 0), helloOf(1, 2, 0, k), helloOf(1, 2, k, k), serverCall(k, 0), serverCall(0, k), serverCall(k, k))
			for kind := 70; kind <= 77; kind++ {
				checkRefused(t, has, letterCall(kind, k), letterCall(kind, k, 0), letterCall(kind, 0, k), letterCall(kind, k, k), letterCall(kind, 0, 1, k))
			}
		}
	}
}

// Whether a place is there is asked when its own pair is put: up to what the call brought till then, and no further.
func TestP11PlacesOfWhatTheCallBrings(t *testing.T) {
	nodes := threeSecrets
	with := func(more ...impl.Node) []impl.Node { return slices.Concat(nodes, more) }
	checkSecret(t, nodes, serverCall(0, 4), with(atomNode(62), atomNode(0), pairNode(4, 4), pairNode(0, 5), pairNode(3, 6)), 7)
	checkSecret(t, nodes, serverCall(5, 3), with(atomNode(62), atomNode(0), pairNode(3, 4), pairNode(5, 5), pairNode(3, 6)), 7)
	checkRefused(t, nodes, serverCall(0, 5), serverCall(6, 0), serverCall(7, 0))
	checkSecret(t, nodes, letterCall(72, 3), with(atomNode(72), atomNode(0), pairNode(3, 4), pairNode(3, 5)), 6)
	checkSecret(t, nodes, letterCall(72, 4), with(atomNode(72), atomNode(0), pairNode(4, 4), pairNode(3, 5)), 6)
	checkSecret(t, nodes, letterCall(71, 5, 4), with(atomNode(71), atomNode(0), pairNode(4, 4), pairNode(5, 5), pairNode(3, 6)), 7)
	checkRefused(t, nodes, letterCall(72, 5), letterCall(71, 6, 4), letterCall(71, 4, 5))
	for nonce := -1; nonce <= 14; nonce++ {
		for pub := -1; pub <= 14; pub++ {
			checkPlain(t, nodes, helloOf(1, 2, nonce, pub), helloOf(2, 2, nonce, pub), helloOf(0, 0, nonce, pub), serverCall(nonce, pub), letterCall(76, nonce, pub))
			checkPlain(t, nil, helloOf(1, 2, nonce, pub), helloOf(61, 61, nonce, pub), serverCall(nonce, pub), letterCall(0, nonce, pub))
		}
	}
}

func TestP11Room(t *testing.T) {
	for _, c := range wordCases() {
		checkRoom(t, c)
	}
}

// Some of the terms are there, and those behind them have room or not: then nothing of them stays.
func TestP11RoomWithSomeThere(t *testing.T) {
	for _, first := range [][]impl.Node{{atomNode(0)}, {atomNode(61)}, {atomNode(62)}, {atomNode(71)}, {atomNode(1), atomNode(4)}, {atomNode(0), pairNode(0, 3)}, {atomNode(0), pairNode(0, 3), pairNode(1, 4)}, {atomNode(61), atomNode(0), pairNode(0, 4), pairNode(1, 5)}} {
		for room := range 11 {
			nodes := fullBut(room, first...)
			checkPlain(t, nodes, helloOf(1, 4, 1, 0), helloOf(2, 0, 1, 0), serverCall(1, 0), serverCall(0, 1), letterCall(71, 1, 0), letterCall(72, 0), letterCall(76, 0, 0), letterCall(0))
			checkRefused(t, nodes, helloOf(1, -1, 1, 0), helloOf(-1, 4, 1, 0), serverCall(-1, 0), letterCall(-1), letterCall(71, -1))
			checkNoWords(t, nodes)
		}
	}
}

// First words at the very end of a full arena are read there, and also in one that is too long; to read needs no room.
func TestP11FullArena(t *testing.T) {
	for _, c := range []struct {
		call secretCall
		room int
		want toldWords
	}{
		{helloOf(1, 4, 1, 3), 9, toldWords{hellos: map[int]impl.Hello{2999: {Mode: 1, Name: 4, Nonce: 1, Pub: 3}}}},
		{serverCall(2, 3), 5, toldWords{servers: map[int][2]int{2999: {2, 3}}}},
		{letterCall(76, 0, 3), 5, toldWords{letters: map[int]letterTold{2999: {76, []int{0, 3}}}}},
		{letterCall(75, 3), 4, toldWords{letters: map[int]letterTold{2999: {75, []int{3}}}}},
	} {
		checkRefused(t, fullBut(c.room-1, pubNode(0)), c.call)
		nodes, k := mustWords(t, fullBut(c.room, pubNode(0)), c.call)
		if k != impl.MaxNodes-1 || len(nodes) != impl.MaxNodes {
			t.Fatalf("%s stands at %d of %d nodes", c.call.name, k, len(nodes))
		}
		for _, has := range [][]impl.Node{nodes, slices.Concat(nodes, []impl.Node{hashNode(0), hashNode(1)})} {
			checkWords(t, has, c.want)
			checkSecret(t, has, c.call, has, k)
			checkRefused(t, has, helloOf(2, 4, 1, 3), serverCall(1, 3), letterCall(74, 3), letterCall(76, 3, 0))
		}
		one := slices.Concat(nodes[:k], []impl.Node{pubNode(1)}) // all but the last pair
		checkNoWords(t, one)
		checkRefused(t, one, c.call)
	}
}

// First words behind the end of what an arena may have are still read, if they are right.
func TestP11ArenaThatIsTooLong(t *testing.T) {
	nodes := fullBut(0, pubNode(0))
	end := len(nodes)
	hello := slices.Concat(nodes, []impl.Node{atomNode(61), atomNode(1), atomNode(4), atomNode(0), pairNode(3, end+3), pairNode(1, end+4), pairNode(end+2, end+5), pairNode(end+1, end+6), pairNode(end, end+7)})
	checkOneHello(t, hello, end+8, impl.Hello{Mode: 1, Name: 4, Nonce: 1, Pub: 3})
	checkSecret(t, hello, helloOf(1, 4, 1, 3), hello, end+8)
	letter := slices.Concat(nodes, []impl.Node{atomNode(72), atomNode(0), pairNode(0, end+1), pairNode(end, end+2)})
	checkOneLetter(t, letter, end+3, 72, 0)
	checkSecret(t, letter, letterCall(72, 0), letter, end+3)
}

// Lists of as many parts as there is room for, and of one more.
func TestP11LongLetters(t *testing.T) {
	for _, count := range []int{1, 100, 2994, 2995, 2996, 3000, 5000, 100000} {
		parts, want := make([]int, count), slices.Concat(threeSecrets, []impl.Node{atomNode(71), atomNode(0)})
		for i := range parts {
			parts[i] = i % 3
			want = append(want, pairNode((count-1-i)%3, len(want)-1))
		}
		if want = append(want, pairNode(3, len(want)-1)); len(want) > impl.MaxNodes {
			checkRefused(t, threeSecrets, letterCall(71, parts...))
			continue
		}
		checkSecret(t, threeSecrets, letterCall(71, parts...), want, len(want)-1)
		checkLetterIn(t, want, len(want)-1, letterTold{})
	}
}

// allWords are calls of every function, at places of an arena of that many nodes, and beside them.
func allWords(end int) []secretCall {
	calls := []secretCall{letterCall(71), letterCall(0), letterCall(-1), letterCall(1000000)}
	for x := -1; x <= end+2; x++ {
		calls = append(calls, letterCall(72, x), letterCall(0, x), letterCall(74, x, x, x), helloOf(1, 4, x, 0), helloOf(2, 0, 0, x), helloOf(61, 0, x, x), helloOf(-1, 4, x, x), helloOf(1, 1000000, x, x), serverCall(x, 0), serverCall(0, x), serverCall(x, x), letterCall(76, 0, x), letterCall(73, x, 0))
	}
	return calls
}

// A node that would be right nowhere, wherever it stands: in first words it makes them none, elsewhere it is not asked after.
func TestP11WrongNodes(t *testing.T) {
	for _, wrong := range wrongNodes {
		hello, h := aloneHello()
		for at := range hello {
			nodes := slices.Clone(hello)
			nodes[at] = wrong
			if at == 5 { // what the pub is of
				checkOneHello(t, nodes, 11, h)
			} else {
				checkNoWords(t, nodes)
			}
			checkPlain(t, nodes, allWords(len(nodes))...)
		}
		for at := range aloneServer() {
			nodes := aloneServer()
			nodes[at] = wrong
			if at == 3 {
				checkOneServer(t, nodes, 7, 2, 4)
			} else {
				checkNoWords(t, nodes)
			}
			checkPlain(t, nodes, allWords(len(nodes))...)
		}
		for at := range aloneLetter() {
			nodes := aloneLetter()
			nodes[at] = wrong
			if at == 3 { // a part that is not looked at
				checkOneLetter(t, nodes, 6, 76, 2, 3)
			} else {
				checkNoWords(t, nodes)
			}
		}
		behind := slices.Concat(hello, []impl.Node{wrong})
		checkOneHello(t, behind, 11, h)
		checkSecret(t, behind, helloCall(h), behind, 11)
		ahead := []impl.Node{wrong, atomNode(75), atomNode(0), pairNode(0, 2), pairNode(1, 3)}
		checkSecret(t, ahead[:1], letterCall(75, 0), ahead, 4)
		checkOneLetter(t, ahead, 4, 75, 0)
	}
}

// What a node has that its kind has not makes it none of its kind.
func TestP11NodesWithMore(t *testing.T) {
	hello, _ := aloneHello()
	for _, base := range [][]impl.Node{hello, aloneServer(), aloneLetter()} {
		for at, n := range base {
			for _, more := range []impl.Node{{Num: 1}, {A: 1}, {B: 1}, {Num: -1}, {A: -1}, {B: -1}} {
				nodes := slices.Clone(base)
				nodes[at] = impl.Node{Kind: n.Kind, Num: n.Num + more.Num, A: n.A + more.A, B: n.B + more.B}
				checkWordsPlain(t, nodes)
				checkPlain(t, nodes, allWords(3)...)
			}
		}
	}
	for _, more := range []impl.Node{{Num: 1}, {B: 1}} {
		nodes, _ := aloneHello()
		nodes[6].Num, nodes[6].B = more.Num, more.B // the pub
		checkNoWords(t, nodes)
	}
}

// Nodes that stand ahead of what they have, or have themselves, are not right, and of no kind: they are found, as Put finds them, and not read.
func TestP11NodesThatStandAheadOfWhatTheyHave(t *testing.T) {
	nodes := []impl.Node{pairNode(1, 4)}
	all := slices.Concat(nodes, []impl.Node{atomNode(72), atomNode(5), atomNode(0), pairNode(2, 3)})
	checkSecret(t, all, letterCall(72, 2), all, 0)
	checkNoWords(t, all)
	all = []impl.Node{pairNode(2, 4), atomNode(72), atomNode(5), pairNode(1, 0), atomNode(0)}
	checkSecret(t, all, letterCall(72, 2), all, 3)
	checkNoWords(t, all)
	hello, h := aloneHello()
	for at, itself := range map[int]impl.Node{6: pubNode(6), 7: pairNode(6, 7), 8: pairNode(4, 8), 9: pairNode(2, 9), 10: pairNode(1, 10), 11: pairNode(0, 11)} {
		nodes := slices.Clone(hello)
		nodes[at] = itself
		checkNoWords(t, nodes)
		checkPlain(t, nodes, helloCall(h), letterCall(71, 11, 3))
	}
	loop := []impl.Node{atomNode(71), pairNode(0, 1), pairNode(0, 3), pairNode(0, 2)}
	checkNoWords(t, loop)
}

// The nodes of first words in drawn orders: they are read where each of them is right, and nowhere else.
func TestP11DrawnOrders(t *testing.T) {
	draw := rand.New(rand.NewSource(18))
	hello, h := aloneHello()
	for range 2000 {
		base := [][]impl.Node{hello, aloneServer(), aloneLetter()}[draw.Intn(3)]
		nodes := moved(base, drawPlaces(draw, len(base)))
		checkWordsPlain(t, nodes)
		checkPlain(t, nodes, helloCall(h), serverCall(2, 4), letterCall(76, 2, 3))
	}
}

// Of nodes that are there twice the first one is found; what is read tells its own nonce and pub, and the same numbers.
func TestP11NodesTwice(t *testing.T) {
	nodes := []impl.Node{atomNode(61), atomNode(61), atomNode(1), atomNode(1), atomNode(4), atomNode(4), atomNode(0), atomNode(0), atomNode(6000), atomNode(6000), pubNode(8), pubNode(8)}
	want := slices.Concat(nodes, []impl.Node{pairNode(11, 6), pairNode(9, 12), pairNode(4, 13), pairNode(2, 14), pairNode(0, 15)})
	checkSecret(t, nodes, helloOf(1, 4, 9, 11), want, 16)
	checkOneHello(t, want, 16, impl.Hello{Mode: 1, Name: 4, Nonce: 9, Pub: 11})
	twice := slices.Concat(want, []impl.Node{pairNode(0, 15), pairNode(10, 7), pairNode(8, 18), pairNode(5, 19), pairNode(3, 20), pairNode(1, 21)})
	checkWords(t, twice, toldWords{hellos: map[int]impl.Hello{16: {Mode: 1, Name: 4, Nonce: 9, Pub: 11}, 17: {Mode: 1, Name: 4, Nonce: 9, Pub: 11}, 22: {Mode: 1, Name: 4, Nonce: 8, Pub: 10}}})
	checkSecret(t, twice, helloOf(1, 4, 9, 11), twice, 16)
	checkPlain(t, twice, allWords(12)...)
	letters := []impl.Node{atomNode(75), atomNode(75), atomNode(0), atomNode(0), pairNode(2, 3), pairNode(1, 4)}
	checkOneLetter(t, letters, 5, 75, 2)
	checkSecret(t, letters, letterCall(75, 2), slices.Concat(letters, []impl.Node{pairNode(2, 2), pairNode(0, 6)}), 7)
}

// drawWordNode is often one of those of which first words are made.
func drawWordNode(draw *rand.Rand, k int) impl.Node {
	nums := []int{0, 0, 0, 0, 1, 2, 9, 10, 61, 61, 62, 62, 71, 72, 73, 74, 75, 76, 77, 999, 1000, 1000}
	switch draw.Intn(8) {
	case 0:
		return drawNode(draw, k)
	case 1, 2:
		return atomNode(nums[draw.Intn(len(nums))])
	case 3:
		return pubNode(draw.Intn(k + 1))
	}
	return pairNode(draw.Intn(k+1), draw.Intn(k+1))
}

// Drawn arenas, many of them not right: every function answers as the plain way does.
func TestP11DrawnArenas(t *testing.T) {
	draw := rand.New(rand.NewSource(19))
	for range 1000 {
		nodes := drawNodes(draw, 14, drawWordNode)
		checkWordsPlain(t, nodes)
		end := len(nodes) + 3
		checkPlain(t, nodes, helloOf(draw.Intn(4), draw.Intn(12)-1, draw.Intn(end)-1, draw.Intn(end)-1), serverCall(draw.Intn(end)-1, draw.Intn(end)-1),
			letterCall(70+draw.Intn(8), drawList(draw, len(nodes))...), letterCall(draw.Intn(4)-1, drawList(draw, len(nodes))...))
	}
}

// First words of which one node is drawn anew: each place answers as the plain way does.
func TestP11DrawnWords(t *testing.T) {
	draw := rand.New(rand.NewSource(20))
	for range 2000 {
		nodes := slices.Concat(wordParts, drawNodes(draw, 4, drawNode))
		for range 1 + draw.Intn(3) {
			x, y := draw.Intn(len(nodes)), draw.Intn(len(nodes))
			switch draw.Intn(4) {
			case 0:
				nodes, _ = mustWords(t, nodes, helloOf(1+draw.Intn(2), draw.Intn(10), draw.Intn(3), 3+draw.Intn(2)))
			case 1:
				nodes, _ = mustWords(t, nodes, serverCall(draw.Intn(3), 3+draw.Intn(2)))
			case 2:
				nodes, _ = mustWords(t, nodes, letterCall(71+draw.Intn(6), x, y))
			case 3:
				nodes, _ = mustWords(t, nodes, letterCall(71+draw.Intn(6), x))
			}
		}
		checkWordsPlain(t, nodes)
		drawAnew(draw, nodes, draw.Intn(len(nodes)), drawWordNode)
		checkWordsPlain(t, nodes)
	}
}

func TestP11AnswersAreNewMemory(t *testing.T) {
	hello, _ := aloneHello()
	for _, base := range [][]impl.Node{nil, threeSecrets, hello, aloneServer(), aloneLetter()} {
		checkNewMemory(t, base, allWords(len(base)))
		checkOnlyRead(t, base, func(a impl.Arena, k int) {
			impl.HelloIn(a, k)
			impl.ServerIn(a, k)
			kind, parts := impl.LetterIn(a, k)
			parts = parts[:cap(parts)]
			for i := range parts {
				parts[i] = -9
			}
			again, once := impl.LetterIn(a, k)
			if again != kind || len(once) > 0 && once[0] == -9 {
				t.Fatalf("LetterIn(%v, %d) hands out what it keeps", base, k)
			}
		})
	}
	list := []int{0, 1, 2, 55, 55, 55}
	for count := range 4 {
		impl.LetterOf(arenaOf(threeSecrets...), 71, list[:count])
		impl.LetterOf(impl.Arena{}, -1, list[:count])
		if !slices.Equal(list, []int{0, 1, 2, 55, 55, 55}) {
			t.Fatalf("by LetterOf the parts, or the room behind them, became %v", list)
		}
	}
}
