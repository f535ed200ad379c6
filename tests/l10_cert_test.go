package tests

import (
	"fmt"
	"math"
	"math/rand"
	"slices"
	"testing"

	"loop.example/g00466/impl"
)

// nobodys are numbers that are nobody's name.
var nobodys = []int{-1, -2, -9, -10, 10, 11, 60, 99, 1000, 999999, 1000000, 1 << 32, 1<<32 + 4, math.MaxInt, math.MaxInt - 2000, math.MinInt, math.MinInt + 4}

func isSomebody(name int) bool { return 0 <= name && name <= 9 }

func plainLong(nodes []impl.Node, name int) ([]impl.Node, int) {
	if !isSomebody(name) {
		return nodes, -1
	}
	return plainAtom(nodes, 2000+name)
}

func plainPsk(nodes []impl.Node, x, y int) ([]impl.Node, int) {
	switch {
	case !isSomebody(x) || !isSomebody(y):
		return nodes, -1
	case x > y:
		return plainPsk(nodes, y, x)
	}
	return plainAtom(nodes, 3000+10*x+y)
}

func plainCert(nodes []impl.Node, name int) ([]impl.Node, int) {
	if !isSomebody(name) {
		return nodes, -1
	}
	return plainSteps(nodes, stepNode(atomNode(1000)), stepNode(atomNode(60)), stepNode(atomNode(name)), stepNode(atomNode(2000+name)),
		func(at []int) impl.Node { return pubNode(at[3]) }, stepNode(atomNode(0)),
		func(at []int) impl.Node { return pairNode(at[4], at[5]) },
		func(at []int) impl.Node { return pairNode(at[2], at[6]) },
		func(at []int) impl.Node { return pairNode(at[1], at[7]) },
		func(at []int) impl.Node { return signNode(at[0], at[8]) })
}

// certTold is what CertIn answers.
type certTold struct {
	name, pub int
	ok        bool
}

var noCert = certTold{0, -1, false}

// plainCertIn asks for each of the nodes by itself, from the sign on down: all of them right where they stand.
func plainCertIn(nodes []impl.Node, k int) certTold {
	node := func(k int) impl.Node {
		if !plainNodeOk(nodes, k) {
			return impl.Node{}
		}
		return nodes[k]
	}
	sign := node(k)
	first := node(sign.B)
	second := node(first.B)
	third := node(second.B)
	name, pub := node(second.A), node(third.A)
	if sign.Kind != impl.TmSign || node(sign.A) != atomNode(1000) ||
		first.Kind != impl.TmPair || node(first.A) != atomNode(60) ||
		second.Kind != impl.TmPair || name.Kind != impl.TmAtom || name.Num > 9 ||
		third.Kind != impl.TmPair || pub.Kind != impl.TmPub || node(third.B) != atomNode(0) {
		return noCert
	}
	return certTold{name.Num, third.A, true}
}

func longCall(name int) secretCall {
	return secretCall{fmt.Sprintf("LongSecret(.., %d)", name),
		func(a impl.Arena) (impl.Arena, int) { return impl.LongSecret(a, name) },
		func(nodes []impl.Node) ([]impl.Node, int) { return plainLong(nodes, name) }}
}

func pskCall(x, y int) secretCall {
	return secretCall{fmt.Sprintf("PskOf(.., %d, %d)", x, y),
		func(a impl.Arena) (impl.Arena, int) { return impl.PskOf(a, x, y) },
		func(nodes []impl.Node) ([]impl.Node, int) { return plainPsk(nodes, x, y) }}
}

func certCall(name int) secretCall {
	return secretCall{fmt.Sprintf("CertOf(.., %d)", name),
		func(a impl.Arena) (impl.Arena, int) { return impl.CertOf(a, name) },
		func(nodes []impl.Node) ([]impl.Node, int) { return plainCert(nodes, name) }}
}

func checkCertIn(t *testing.T, nodes []impl.Node, k int, want certTold) {
	t.Helper()
	name, pub, ok := impl.CertIn(arenaOf(nodes...), k)
	if got := (certTold{name, pub, ok}); got != want {
		t.Fatalf("CertIn(%s of %d nodes, %d) = %v; want %v", brief(nodes), len(nodes), k, got, want)
	}
}

// checkCerts asks for certificates at just these places: every other place of the arena, and those beside it, tell nothing.
func checkCerts(t *testing.T, nodes []impl.Node, certs map[int]certTold) {
	t.Helper()
	for k := -2; k <= len(nodes)+2; k++ {
		want, is := certs[k]
		if !is {
			want = noCert
		}
		checkCertIn(t, nodes, k, want)
	}
}

func checkOneCert(t *testing.T, nodes []impl.Node, k, name, pub int) {
	t.Helper()
	checkCerts(t, nodes, map[int]certTold{k: {name, pub, true}})
}

func checkNoCert(t *testing.T, nodes []impl.Node) {
	t.Helper()
	checkCerts(t, nodes, nil)
}

// checkCertsPlain holds every place of an arena, and some beside them, against the plain way.
func checkCertsPlain(t *testing.T, nodes []impl.Node) {
	t.Helper()
	for k := -1; k <= len(nodes)+1; k++ {
		checkCertIn(t, nodes, k, plainCertIn(nodes, k))
	}
}

func mustCert(t *testing.T, nodes []impl.Node, name int) ([]impl.Node, int) {
	t.Helper()
	b, k := mustMake(t, arenaOf(nodes...), certCall(name))
	return b.Nodes, k
}

// aloneCert is a certificate in an arena of nothing, and the place of its pub.
func aloneCert(name int) ([]impl.Node, int) {
	if name == 0 { // its Atom is the one that the List ends with
		return []impl.Node{atomNode(1000), atomNode(60), atomNode(0), atomNode(2000), pubNode(3), pairNode(4, 2), pairNode(2, 5), pairNode(1, 6), signNode(0, 7)}, 4
	}
	return []impl.Node{atomNode(1000), atomNode(60), atomNode(name), atomNode(2000 + name), pubNode(3), atomNode(0), pairNode(4, 5), pairNode(2, 6), pairNode(1, 7), signNode(0, 8)}, 4
}

// certCases bring their nodes behind three secrets, of which the first one is that by which certificates are signed.
func certCases() []secretCase {
	cases := []secretCase{{certCall(0), []impl.Node{atomNode(60), atomNode(0), atomNode(2000), pubNode(5), pairNode(6, 4), pairNode(4, 7), pairNode(3, 8), signNode(0, 9)}}}
	for name := 1; name <= 9; name++ {
		cases = append(cases, secretCase{certCall(name), []impl.Node{atomNode(60), atomNode(name), atomNode(2000 + name), pubNode(5), atomNode(0), pairNode(6, 7), pairNode(4, 8), pairNode(3, 9), signNode(0, 10)}})
	}
	return cases
}

// nameCases are long secrets and secrets of two: an Atom each.
func nameCases() []secretCase {
	var cases []secretCase
	for x := range 10 {
		cases = append(cases, secretCase{longCall(x), []impl.Node{atomNode(2000 + x)}})
		for y := range x + 1 {
			psk := []impl.Node{atomNode(3000 + 10*y + x)}
			cases = append(cases, secretCase{pskCall(x, y), psk}, secretCase{pskCall(y, x), psk})
		}
	}
	return cases
}

func TestP10CaSecret(t *testing.T) {
	if impl.CaSecret != 1000 {
		t.Errorf("CaSecret is %d; want 1000", impl.CaSecret)
	}
}

func TestP10LongSecretOfEachName(t *testing.T) {
	for name, num := range []int{2000, 2001, 2002, 2003, 2004, 2005, 2006, 2007, 2008, 2009} {
		checkSecret(t, nil, longCall(name), []impl.Node{atomNode(num)}, 0)
		checkSecret(t, []impl.Node{atomNode(name), atomNode(num - 1), atomNode(num + 1)}, longCall(name), []impl.Node{atomNode(name), atomNode(num - 1), atomNode(num + 1), atomNode(num)}, 3)
		checkSecret(t, []impl.Node{atomNode(7777), atomNode(num)}, longCall(name), []impl.Node{atomNode(7777), atomNode(num)}, 1)
	}
}

// The same in either order, and of one name with itself.
func TestP10SecretOfTwo(t *testing.T) {
	for _, c := range [][3]int{
		{0, 0, 3000}, {0, 1, 3001}, {0, 9, 3009}, {1, 1, 3011}, {1, 9, 3019}, {3, 9, 3039}, {2, 7, 3027}, {4, 5, 3045}, {5, 5, 3055}, {8, 9, 3089}, {9, 9, 3099},
	} {
		for _, call := range []secretCall{pskCall(c[0], c[1]), pskCall(c[1], c[0])} {
			checkSecret(t, nil, call, []impl.Node{atomNode(c[2])}, 0)
			nodes := []impl.Node{atomNode(c[2] - 1), atomNode(c[2] + 1)}
			checkSecret(t, nodes, call, slices.Concat(nodes, []impl.Node{atomNode(c[2])}), 2)
			nodes = append(nodes, atomNode(c[2]), hashNode(0))
			checkSecret(t, nodes, call, nodes, 2)
		}
	}
}

// Each two names have one secret, and no two have that of others, or the long secret of one.
func TestP10SecretsOfNamesAreUnlike(t *testing.T) {
	a := impl.Arena{}
	who := map[int]string{}
	claim := func(c secretCall, told string) {
		var k int
		if a, k = mustMake(t, a, c); who[k] != "" && who[k] != told {
			t.Errorf("%s and %s have one secret", who[k], told)
		}
		who[k] = told
	}
	for x := range 10 {
		claim(longCall(x), fmt.Sprint("long of ", x))
		for y := range 10 {
			claim(pskCall(x, y), fmt.Sprint("that of ", min(x, y), " and ", max(x, y)))
		}
	}
	if len(who) != 65 || len(a.Nodes) != 65 || !impl.ArenaOk(a) {
		t.Errorf("%d secrets in %d nodes; want 65 of 10 names", len(who), len(a.Nodes))
	}
}

func TestP10CertsInAnArenaOfNothing(t *testing.T) {
	for name := range 10 {
		want, pub := aloneCert(name)
		for there := range len(want) + 1 {
			checkSecret(t, want[:there], certCall(name), want, len(want)-1)
			if there < len(want) {
				checkNoCert(t, want[:there])
			}
		}
		checkOneCert(t, want, len(want)-1, name, pub)
		if !impl.ArenaOk(arenaOf(want...)) {
			t.Errorf("what CertOf %d makes is no right arena", name)
		}
	}
}

func TestP10TermsNodeByNode(t *testing.T) {
	for _, c := range slices.Concat(certCases(), nameCases()) {
		checkNodeByNode(t, c)
	}
}

// One that has others: what is made stands behind them, and of what it is made of only what is just that counts.
func TestP10AmongOthers(t *testing.T) {
	others := []impl.Node{atomNode(10), atomNode(61), atomNode(59), pubNode(0), pubNode(1), pairNode(0, 1), signNode(0, 1), signNode(0, 3), atomNode(1999), atomNode(2010), atomNode(2999), atomNode(3100)}
	for _, c := range slices.Concat(certCases(), nameCases()) {
		checkAmong(t, c, others...)
	}
}

// Some are there already, in another order than they would be made in.
func TestP10SomeAreThere(t *testing.T) {
	nodes := []impl.Node{atomNode(0), atomNode(2004), atomNode(4), atomNode(60), atomNode(1000)}
	want := slices.Concat(nodes, []impl.Node{pubNode(1), pairNode(5, 0), pairNode(2, 6), pairNode(3, 7), signNode(4, 8)})
	checkSecret(t, nodes, certCall(4), want, 9)
	checkOneCert(t, want, 9, 4, 5)
	nodes = []impl.Node{atomNode(2004), pubNode(0), atomNode(0), pairNode(1, 2)}
	want = slices.Concat(nodes, []impl.Node{atomNode(1000), atomNode(60), atomNode(4), pairNode(6, 3), pairNode(5, 7), signNode(4, 8)})
	checkSecret(t, nodes, certCall(4), want, 9)
	checkOneCert(t, want, 9, 4, 1)
	nodes = []impl.Node{atomNode(2004), pubNode(0), atomNode(0), pairNode(1, 2), atomNode(4), pairNode(4, 3), atomNode(60), pairNode(6, 5)}
	want = slices.Concat(nodes, []impl.Node{atomNode(1000), signNode(8, 7)})
	checkSecret(t, nodes, certCall(4), want, 9)
	checkOneCert(t, want, 9, 4, 1)
	for _, c := range slices.Concat(certCases(), nameCases()) {
		for _, first := range []impl.Node{atomNode(0), atomNode(1), atomNode(9), atomNode(60), atomNode(2000), atomNode(2009), atomNode(3000), atomNode(3099), pubNode(0)} {
			nodes := slices.Concat(threeSecrets, []impl.Node{first})
			checkPlain(t, nodes, c.call)
			checkPlain(t, slices.Concat(nodes, []impl.Node{pubNode(3), pairNode(4, 3), pairNode(3, 5), signNode(0, 6)}), c.call)
		}
	}
}

// All certificates stand in one arena: each tells its own name, and the pub of its long secret.
func TestP10CertsTellTheirNames(t *testing.T) {
	nodes, certs := []impl.Node(nil), map[int]certTold{}
	for name := range 10 {
		var k int
		nodes, k = mustCert(t, nodes, name)
		if other, twice := certs[k]; twice {
			t.Fatalf("%d has the certificate of %d", name, other.name)
		}
		certs[k] = certTold{name, slices.Index(nodes, pubNode(slices.Index(nodes, atomNode(2000+name)))), true}
	}
	checkCerts(t, nodes, certs)
	for k, told := range certs {
		checkSecret(t, nodes, certCall(told.name), nodes, k)
		checkSecret(t, nodes, longCall(told.name), nodes, nodes[told.pub].A)
	}
	if !impl.ArenaOk(arenaOf(nodes...)) {
		t.Errorf("what is made makes an arena that is not right: %v", nodes)
	}
}

// certParts are 1000, 60, 4, 2004, pub, 0, three pairs and the sign: as aloneCert 4 has them.
func certParts() []impl.Node {
	nodes, _ := aloneCert(4)
	return nodes
}

// What is signed tells whose pub it is: one of another name's long secret, or of any other term, is told as well.
func TestP10AnyPub(t *testing.T) {
	for _, of := range []impl.Node{atomNode(2004), atomNode(2005), atomNode(1000), atomNode(0), atomNode(5000), hashNode(0), kdfNode(0, 1), pairNode(0, 1), pubNode(0), pubNode(3), dhNode(0, 1), signNode(0, 8)} {
		nodes, secret := plainPut(certParts(), of)
		nodes, pub := plainPut(nodes, pubNode(secret))
		nodes, list := plainList(nodes, []int{1, 2, pub})
		nodes, k := plainPut(nodes, signNode(0, list))
		checkCerts(t, nodes, map[int]certTold{9: {4, 4, true}, k: {4, pub, true}})
		checkSecret(t, nodes, certCall(4), nodes, 9)
	}
}

// Names of nobody have nothing, though there are Atoms of them, and of all that their certificate would be made of.
func TestP10NamesOfNobody(t *testing.T) {
	ten := []impl.Node{atomNode(1000), atomNode(60), atomNode(10), atomNode(2010), pubNode(3), atomNode(0), pairNode(4, 5), pairNode(2, 6), pairNode(1, 7), signNode(0, 8)}
	two := []impl.Node{atomNode(1999), atomNode(2010), atomNode(2999), atomNode(3010), atomNode(3100), atomNode(3109), atomNode(3110), atomNode(2989)}
	for _, nodes := range [][]impl.Node{nil, threeSecrets, ten, two, fullBut(0), fullBut(20)} {
		for _, name := range nobodys {
			checkRefused(t, nodes, longCall(name), certCall(name), pskCall(name, name))
			for _, other := range []int{0, 1, 5, 9, -1, 10} {
				checkRefused(t, nodes, pskCall(name, other), pskCall(other, name))
			}
		}
	}
	checkNoCert(t, ten)
}

// Limits that are met are accepted, and those that are passed by one refused.
func TestP10Limits(t *testing.T) {
	for name := -3; name <= 13; name++ {
		_, long := impl.LongSecret(impl.Arena{}, name)
		_, cert := impl.CertOf(impl.Arena{}, name)
		_, psk := impl.PskOf(impl.Arena{}, name, 5)
		if is := isSomebody(name); is != (long >= 0) || is != (cert >= 0) || is != (psk >= 0) {
			t.Errorf("of the name %d: %d, %d, %d; a somebody: %v", name, long, cert, psk, is)
		}
	}
	for _, name := range []int{0, 1, 8, 9, 10, 11, 59, 60, 999, 1000, 2004, 999999} {
		nodes := certParts()
		nodes[2] = atomNode(name)
		if isSomebody(name) {
			checkOneCert(t, nodes, 9, name, 4)
		} else {
			checkNoCert(t, nodes)
		}
	}
}

// Another secret, another beginning, or what is no Atom or no TmPub where one must be.
func TestP10PartsThatAreOthers(t *testing.T) {
	for at, others := range map[int][]impl.Node{
		0: {atomNode(999), atomNode(1001), atomNode(2004), atomNode(0), hashNode(0), pubNode(0)},
		1: {atomNode(59), atomNode(61), atomNode(62), atomNode(4), atomNode(0), hashNode(0), pubNode(0), pairNode(0, 0)},
		2: {atomNode(10), atomNode(60), atomNode(2004), hashNode(0), pubNode(0), pairNode(0, 0), signNode(0, 0)},
		4: {atomNode(2004), hashNode(3), pairNode(3, 3), signNode(0, 3), dhNode(3, 3), kdfNode(3, 3), sealNode(0, 3)},
		5: {atomNode(1), atomNode(60), hashNode(0), pubNode(0), pairNode(0, 0)},
		6: {pairNode(3, 5), pairNode(5, 4), pairNode(4, 4), kdfNode(4, 5), sealNode(4, 5), atomNode(0), pubNode(3)},
		7: {pairNode(4, 6), pairNode(6, 2), pairNode(2, 5), kdfNode(2, 6), macNode(2, 6), atomNode(0)},
		8: {pairNode(2, 7), pairNode(7, 1), pairNode(1, 6), kdfNode(1, 7), dhNode(1, 7), atomNode(0)},
		9: {signNode(1, 8), signNode(2, 8), signNode(3, 8), signNode(4, 8), signNode(8, 0), signNode(0, 7), signNode(0, 6), signNode(0, 5), macNode(0, 8), sealNode(0, 8), pairNode(0, 8), kdfNode(0, 8), dhNode(0, 8)},
	} {
		for _, other := range others {
			nodes := certParts()
			nodes[at] = other
			checkNoCert(t, nodes)
			checkPlain(t, nodes, certCall(4), certCall(0), longCall(4), pskCall(4, 4))
		}
	}
}

// Lists of other lengths, those whose parts stand in another order, and those with another end are none.
func TestP10ListsThatAreOthers(t *testing.T) {
	base := certParts()
	for _, list := range [][]int{
		{}, {1}, {4}, {1, 2}, {2, 4}, {1, 4}, {1, 2, 4, 4}, {1, 2, 4, 2}, {1, 2, 4, 0}, {1, 2, 2, 4}, {1, 1, 2, 4}, {0, 1, 2, 4}, {1, 2, 4, 1, 2, 4},
		{2, 1, 4}, {1, 4, 2}, {4, 2, 1}, {4, 1, 2}, {2, 4, 1}, {1, 1, 4}, {2, 2, 4}, {1, 4, 4}, {4, 2, 4}, {1, 2, 1}, {1, 2, 3}, {1, 2, 5}, {1, 2, 8}, {1, 2, 9}, {8},
	} {
		with, k := plainList(base, list)
		with, sign := plainPut(with, signNode(0, k))
		if k < 0 || sign < 0 {
			t.Fatalf("no List of %v", list)
		}
		checkOneCert(t, with, 9, 4, 4)
		checkCertIn(t, with, sign, noCert)
	}
	for _, more := range [][]impl.Node{
		{pairNode(2, 4), pairNode(1, 10), signNode(0, 11)},
		{pairNode(4, 1), pairNode(2, 10), pairNode(1, 11), signNode(0, 12)},
		{pairNode(4, 8), pairNode(2, 10), pairNode(1, 11), signNode(0, 12)},
		{signNode(0, 9)}, {signNode(9, 8)}, {signNode(0, 4)}, {signNode(0, 0)},
	} {
		checkOneCert(t, slices.Concat(base, more), 9, 4, 4)
	}
}

// Of every other secret that there is, it is signed by another one.
func TestP10SignedByOthers(t *testing.T) {
	base := slices.Concat(certParts(), []impl.Node{atomNode(1001), hashNode(0), kdfNode(0, 1), pubNode(0), dhNode(0, 3), atomNode(2000), atomNode(9000)})
	for secret := range base {
		nodes := slices.Concat(base, []impl.Node{signNode(secret, 8)})
		if secret == 0 {
			checkCerts(t, nodes, map[int]certTold{9: {4, 4, true}, len(base): {4, 4, true}}) // once more the same
		} else {
			checkOneCert(t, nodes, 9, 4, 4)
		}
	}
}

// No kind but TmSign, at its own place or at any other one.
func TestP10KindsThatAreOthers(t *testing.T) {
	for _, kind := range []int{math.MinInt, -1, 0, 1, 2, 3, 4, 5, 6, 7, 8, 9, 10, 8 + 1<<32} {
		nodes := certParts()
		nodes[9].Kind = kind
		if kind == impl.TmSign {
			checkOneCert(t, nodes, 9, 4, 4)
		} else {
			checkNoCert(t, nodes)
		}
	}
}

// Where a name is no Atom there is none, also not 0; and what is not there is no Atom of a name.
func TestP10NothingIsNotZero(t *testing.T) {
	for _, other := range []impl.Node{hashNode(0), pubNode(0), pairNode(0, 0), {}, atomNode(-1), {Kind: impl.TmAtom, A: 1}} {
		nodes := certParts()
		nodes[2] = other
		checkNoCert(t, nodes)
	}
	checkNoCert(t, nil)
	checkNoCert(t, []impl.Node{signNode(0, 0)})
	checkNoCert(t, []impl.Node{atomNode(1000), signNode(0, 0)})
	checkNoCert(t, []impl.Node{atomNode(0), signNode(0, 0), pairNode(0, 0), signNode(0, 2)})
}

func TestP10PlacesThatAreNone(t *testing.T) {
	nodes := certParts()
	for _, has := range [][]impl.Node{nil, threeSecrets, nodes[:9], nodes} {
		for _, k := range append(slices.Clone(outside), len(has), len(has)+1, len(has)+9, 9+1<<32, -9, -10) {
			checkCertIn(t, has, k, noCert)
		}
	}
}

func TestP10Room(t *testing.T) {
	for _, c := range slices.Concat(certCases()[:2], certCases()[9:], nameCases()[:3], nameCases()[len(nameCases())-3:]) {
		checkRoom(t, c)
	}
}

// Some of a certificate's terms are there, and those behind them have room or not: then nothing of them stays.
func TestP10RoomWithSomeThere(t *testing.T) {
	for _, first := range [][]impl.Node{{atomNode(0)}, {atomNode(60)}, {atomNode(4)}, {atomNode(2004)}, {atomNode(2004), pubNode(3)}, {atomNode(2004), pubNode(3), atomNode(0), pairNode(4, 5)}, {atomNode(4), atomNode(0), atomNode(60)}, {atomNode(3044)}} {
		for room := range 11 {
			nodes := fullBut(room, first...)
			checkPlain(t, nodes, certCall(0), certCall(4), certCall(9), longCall(4), longCall(5), pskCall(4, 4), pskCall(9, 0))
			checkRefused(t, nodes, certCall(10), certCall(-1), longCall(10), pskCall(4, 10))
			checkNoCert(t, nodes)
		}
	}
}

// A certificate at the very end of a full arena is read there, and also in one that is too long; what is asked for needs no room.
func TestP10FullArena(t *testing.T) {
	nodes, cert := mustCert(t, fullBut(9), 4)
	if len(nodes) != impl.MaxNodes || cert != impl.MaxNodes-1 {
		t.Fatalf("a certificate at %d of %d nodes; want the last one of %d", cert, len(nodes), impl.MaxNodes)
	}
	for _, has := range [][]impl.Node{nodes, slices.Concat(nodes, []impl.Node{hashNode(0), hashNode(1)})} {
		checkOneCert(t, has, cert, 4, impl.MaxNodes-6)
		checkSecret(t, has, certCall(4), has, cert)
		checkSecret(t, has, longCall(4), has, impl.MaxNodes-7)
		checkRefused(t, has, certCall(0), certCall(3), certCall(5), longCall(3), longCall(0), pskCall(4, 4), pskCall(0, 0))
	}
	one := slices.Concat(nodes[:cert], []impl.Node{pubNode(0)}) // all but the sign itself
	checkNoCert(t, one)
	checkRefused(t, one, certCall(4))
	long := slices.Concat(fullBut(1), []impl.Node{atomNode(2004)})
	checkSecret(t, long, longCall(4), long, impl.MaxNodes-1)
	checkRefused(t, long, longCall(5), certCall(4), pskCall(4, 4))
}

// A certificate behind the end of what an arena may have is still read, if it is right.
func TestP10ArenaThatIsTooLong(t *testing.T) {
	nodes := fullBut(0)
	others := len(nodes) - len(threeSecrets)
	for _, n := range certCases()[4].brings {
		n.A, n.B = behindOthers(n.A, others), behindOthers(n.B, others)
		nodes = append(nodes, n)
	}
	checkOneCert(t, nodes, len(nodes)-1, 4, impl.MaxNodes+3)
	checkSecret(t, nodes, certCall(4), nodes, len(nodes)-1)
}

func nameCalls() []secretCall {
	var calls []secretCall
	for _, c := range slices.Concat(certCases(), nameCases()) {
		calls = append(calls, c.call)
	}
	return append(calls, longCall(-1), longCall(10), certCall(-1), certCall(10), pskCall(-1, 4), pskCall(4, -1), pskCall(10, 4), pskCall(4, 10), pskCall(-1, 10))
}

// A node that would be right nowhere, wherever it stands: in a certificate it makes it none, elsewhere it is not asked after.
func TestP10WrongNodes(t *testing.T) {
	for _, wrong := range wrongNodes {
		for at := range certParts() {
			nodes := certParts()
			nodes[at] = wrong
			if at == 3 { // what the pub is of
				checkOneCert(t, nodes, 9, 4, 4)
			} else {
				checkNoCert(t, nodes)
			}
			checkPlain(t, nodes, nameCalls()...)
		}
		behind := slices.Concat(certParts(), []impl.Node{wrong})
		checkOneCert(t, behind, 9, 4, 4)
		checkSecret(t, behind, certCall(4), behind, 9)
		ahead := []impl.Node{wrong, atomNode(1000), atomNode(60), atomNode(4), atomNode(2004), pubNode(4), atomNode(0), pairNode(5, 6), pairNode(3, 7), pairNode(2, 8), signNode(1, 9)}
		checkSecret(t, ahead[:1], certCall(4), ahead, 10)
		checkOneCert(t, ahead, 10, 4, 5)
	}
}

// What a node has that its kind has not makes it none of its kind.
func TestP10NodesWithMore(t *testing.T) {
	for at, n := range certParts() {
		for _, more := range []impl.Node{{Num: 1}, {A: 1}, {B: 1}, {Num: -1}, {B: -1}} {
			nodes := certParts()
			nodes[at] = impl.Node{Kind: n.Kind, Num: n.Num + more.Num, A: n.A + more.A, B: n.B + more.B}
			checkCertsPlain(t, nodes)
			checkPlain(t, nodes, nameCalls()...)
		}
	}
	nodes := certParts()
	nodes[4].B = 1
	checkNoCert(t, nodes)
	nodes = certParts()
	nodes[9].Num = 1
	checkNoCert(t, nodes)
}

// Nodes that stand ahead of what they have, or have themselves, are not right, and of no kind: CertOf finds them, as Put does, and CertIn does not read them.
func TestP10NodesThatStandAheadOfWhatTheyHave(t *testing.T) {
	for _, c := range []struct{ nodes, more []impl.Node }{
		{[]impl.Node{signNode(1, 9)}, []impl.Node{atomNode(1000), atomNode(60), atomNode(4), atomNode(2004), pubNode(4), atomNode(0), pairNode(5, 6), pairNode(3, 7), pairNode(2, 8)}},
		{[]impl.Node{pairNode(5, 6)}, []impl.Node{atomNode(1000), atomNode(60), atomNode(4), atomNode(2004), pubNode(4), atomNode(0), pairNode(3, 0), pairNode(2, 7), signNode(1, 8)}},
		{[]impl.Node{pubNode(4)}, []impl.Node{atomNode(1000), atomNode(60), atomNode(4), atomNode(2004), atomNode(0), pairNode(0, 5), pairNode(3, 6), pairNode(2, 7), signNode(1, 8)}},
	} {
		all := slices.Concat(c.nodes, c.more)
		at := slices.IndexFunc(all, func(n impl.Node) bool { return n.Kind == impl.TmSign })
		checkSecret(t, c.nodes, certCall(4), all, at)
		checkSecret(t, all, certCall(4), all, at)
		checkNoCert(t, all)
	}
	for at, itself := range map[int]impl.Node{4: pubNode(4), 6: pairNode(4, 6), 7: pairNode(2, 7), 8: pairNode(1, 8), 9: signNode(0, 9)} {
		nodes := certParts()
		nodes[at] = itself
		checkNoCert(t, nodes)
		checkPlain(t, nodes, nameCalls()...)
	}
}

// The nodes of a certificate in drawn orders: CertIn reads it where each of them is right, and nowhere else.
func TestP10DrawnOrders(t *testing.T) {
	draw := rand.New(rand.NewSource(15))
	for range 3000 {
		nodes, _ := aloneCert(draw.Intn(10))
		all := moved(nodes, drawPlaces(draw, len(nodes)))
		checkCertsPlain(t, all)
		checkPlain(t, all, certCall(4), certCall(0), longCall(4))
	}
}

// Of nodes that are there twice the first one is found; what is read tells the same, whichever of them it has.
func TestP10NodesTwice(t *testing.T) {
	nodes := []impl.Node{atomNode(1000), atomNode(1000), atomNode(60), atomNode(60), atomNode(4), atomNode(4), atomNode(2004), atomNode(2004), pubNode(6), pubNode(6), pubNode(7), atomNode(0), atomNode(0)}
	want := slices.Concat(nodes, []impl.Node{pairNode(8, 11), pairNode(4, 13), pairNode(2, 14), signNode(0, 15)})
	checkSecret(t, nodes, certCall(4), want, 16)
	checkSecret(t, nodes, longCall(4), nodes, 6)
	checkOneCert(t, want, 16, 4, 8)
	twice := slices.Concat(want, []impl.Node{signNode(0, 15), pairNode(10, 12), pairNode(5, 18), pairNode(3, 19), signNode(1, 20)})
	checkSecret(t, twice, certCall(4), twice, 16)
	checkCerts(t, twice, map[int]certTold{16: {4, 8, true}, 17: {4, 8, true}, 21: {4, 10, true}})
	checkPlain(t, twice, nameCalls()...)
	psk := []impl.Node{atomNode(3019), atomNode(3019)}
	checkSecret(t, psk, pskCall(9, 1), psk, 0)
}

// Who hears all certificates, and has the long secret of one, can make none that tells another pub of a name, nor have another one's secret.
func TestP10WhoHearsCerts(t *testing.T) {
	nodes, mine := mustCert(t, nil, 3)
	nodes, yours := mustCert(t, nodes, 4)
	three, four := plainCertIn(nodes, mine).pub, plainCertIn(nodes, yours).pub
	sixty, name := slices.Index(nodes, atomNode(60)), slices.Index(nodes, atomNode(4))
	nodes, list := plainList(nodes, []int{sixty, name, three})
	nodes, false4 := plainPut(nodes, signNode(slices.Index(nodes, atomNode(1000)), list))
	checkCertIn(t, nodes, false4, certTold{4, three, true})
	a, known := arenaOf(nodes...), []int{mine, yours, nodes[three].A}
	for k, can := range map[int]bool{three: true, four: true, list: true, mine: true, false4: false, nodes[four].A: false, nodes[mine].A: false} {
		if impl.Derives(a, known, k) != can {
			t.Errorf("who hears certificates of %v has %d: %v; want %v", nodes, k, !can, can)
		}
	}
	if !impl.Derives(a, append(known, nodes[mine].A), false4) {
		t.Errorf("who has the secret of %v can't make what it signs", nodes)
	}
}

// What is signed with a name's long secret is Signed by the pub that its certificate tells, and by no other one's.
func TestP10WhatTheNameSigned(t *testing.T) {
	nodes, pubs := threeSecrets, make([]int, 10)
	for name := range pubs {
		var k int
		nodes, k = mustCert(t, nodes, name)
		_, pubs[name], _ = impl.CertIn(arenaOf(nodes...), k)
	}
	for name := range pubs {
		_, long := impl.LongSecret(arenaOf(nodes...), name)
		a, sign := impl.Make(arenaOf(nodes...), impl.TmSign, long, 2)
		for other, pub := range pubs {
			if other == name {
				checkSigned(t, a, pub, sign, 2, true)
			} else {
				checkSigned(t, a, pub, sign, -1, false)
			}
		}
	}
}

// drawCertNode is often one of those of which certificates are made.
func drawCertNode(draw *rand.Rand, k int) impl.Node {
	nums := []int{0, 0, 0, 4, 9, 10, 60, 60, 1000, 1000, 2004}
	switch draw.Intn(8) {
	case 0:
		return drawNode(draw, k)
	case 1, 2:
		return atomNode(nums[draw.Intn(len(nums))])
	case 3:
		return pubNode(draw.Intn(k + 1))
	case 4:
		return signNode(draw.Intn(k+1), draw.Intn(k+1))
	}
	return pairNode(draw.Intn(k+1), draw.Intn(k+1))
}

// Drawn arenas, many of them not right: every function answers as the plain way does.
func TestP10DrawnArenas(t *testing.T) {
	draw := rand.New(rand.NewSource(16))
	for range 1000 {
		nodes := drawNodes(draw, 12, drawCertNode)
		checkCertsPlain(t, nodes)
		checkPlain(t, nodes, certCall(0), certCall(4), certCall(draw.Intn(12)-1), longCall(4), longCall(draw.Intn(12)-1), pskCall(draw.Intn(12)-1, draw.Intn(12)-1))
	}
}

// drawAnew lets another node stand at a place: a drawn one, one that is there already, or the same with other terms.
func drawAnew(draw *rand.Rand, nodes []impl.Node, at int, one func(draw *rand.Rand, k int) impl.Node) {
	switch draw.Intn(3) {
	case 0:
		nodes[at] = one(draw, at)
	case 1:
		nodes[at] = nodes[draw.Intn(len(nodes))]
	case 2:
		nodes[at].A, nodes[at].B = draw.Intn(at+1), draw.Intn(at+1)
	}
}

// Certificates of which one node is drawn anew: each place answers as the plain way does.
func TestP10DrawnCerts(t *testing.T) {
	draw := rand.New(rand.NewSource(17))
	for range 2000 {
		nodes := drawNodes(draw, 4, drawNode)
		for range 1 + draw.Intn(3) {
			nodes, _ = mustCert(t, nodes, draw.Intn(10))
		}
		checkCertsPlain(t, nodes)
		drawAnew(draw, nodes, draw.Intn(len(nodes)), drawCertNode)
		checkCertsPlain(t, nodes)
		checkPlain(t, nodes, certCall(draw.Intn(10)))
	}
}

func TestP10AnswersAreNewMemory(t *testing.T) {
	nodes := certParts()
	for _, end := range []int{0, 3, 6, len(nodes)} {
		checkNewMemory(t, nodes[:end], nameCalls())
	}
	for _, end := range []int{0, 3, 9, len(nodes)} {
		checkOnlyRead(t, nodes[:end], func(a impl.Arena, k int) { impl.CertIn(a, k) })
	}
}
