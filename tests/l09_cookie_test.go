package tests

import (
	"fmt"
	"math"
	"math/rand"
	"slices"
	"testing"

	"loop.example/g00466/impl"
)

func plainCookie(nodes []impl.Node, secret, addr, hello int) ([]impl.Node, int) {
	return plainSteps(nodes, stepNode(atomNode(secret)), stepNode(atomNode(addr)), stepNode(hashNode(hello)), stepNode(atomNode(0)),
		func(at []int) impl.Node { return pairNode(at[2], at[3]) },
		func(at []int) impl.Node { return pairNode(at[1], at[4]) },
		func(at []int) impl.Node { return macNode(at[0], at[5]) })
}

// plainCookieAt is the place of the cookie that the plain way finds, where it puts nothing; -1 where it would put something, or can't.
func plainCookieAt(nodes []impl.Node, secret, addr, hello int) int {
	with, k := plainCookie(nodes, secret, addr, hello)
	if len(with) != len(nodes) {
		return -1
	}
	return k
}

// tellsCookie asks for each of the seven nodes by itself, from the cookie on down, wherever they stand.
func tellsCookie(nodes []impl.Node, secret, addr, hello, cookie int) bool {
	node := func(k int) impl.Node {
		if k < 0 || k >= len(nodes) {
			return impl.Node{}
		}
		return nodes[k]
	}
	mac := node(cookie)
	first := node(mac.B)
	second := node(first.B)
	return mac == macNode(mac.A, mac.B) && first == pairNode(first.A, first.B) && second == pairNode(second.A, second.B) &&
		node(mac.A) == atomNode(secret) && node(first.A) == atomNode(addr) && node(second.A) == hashNode(hello) && node(second.B) == atomNode(0)
}

func cookieCall(secret, addr, hello int) secretCall {
	return secretCall{fmt.Sprintf("CookieOf(.., %d, %d, %d)", secret, addr, hello),
		func(a impl.Arena) (impl.Arena, int) { return impl.CookieOf(a, secret, addr, hello) },
		func(nodes []impl.Node) ([]impl.Node, int) { return plainCookie(nodes, secret, addr, hello) }}
}

// cookieAsk is all that is asked of a place: whether it is the cookie of these.
type cookieAsk struct{ secret, addr, hello int }

func (c cookieAsk) call() secretCall { return cookieCall(c.secret, c.addr, c.hello) }

func checkCookie(t *testing.T, nodes []impl.Node, c cookieAsk, cookie int, want bool) {
	t.Helper()
	if got := impl.CookieOk(arenaOf(nodes...), c.secret, c.addr, c.hello, cookie); got != want {
		t.Fatalf("CookieOk(%s of %d nodes, %d, %d, %d, %d) = %v; want %v", brief(nodes), len(nodes), c.secret, c.addr, c.hello, cookie, got, want)
	}
}

// checkOneCookie asks for a cookie that is right at its own place alone: nothing else of the arena is it.
func checkOneCookie(t *testing.T, nodes []impl.Node, c cookieAsk, cookie int) {
	t.Helper()
	for k := -1; k <= len(nodes)+1; k++ {
		checkCookie(t, nodes, c, k, k == cookie)
	}
}

// checkNoCookie asks that nothing of the arena, and no place beside it, is this cookie.
func checkNoCookie(t *testing.T, nodes []impl.Node, asks ...cookieAsk) {
	t.Helper()
	for _, c := range asks {
		checkOneCookie(t, nodes, c, -2)
	}
}

// checkCookiesPlain holds every place, and some beside them, against the plain way: a cookie is right where it is found, and tells what is asked; where the arena is right, whatever tells that is it.
func checkCookiesPlain(t *testing.T, nodes []impl.Node, asks ...cookieAsk) {
	t.Helper()
	right := plainArenaOk(nodes)
	for _, c := range asks {
		place := plainCookieAt(nodes, c.secret, c.addr, c.hello)
		for k := -1; k <= len(nodes)+1; k++ {
			is, tells := k >= 0 && k == place, tellsCookie(nodes, c.secret, c.addr, c.hello, k)
			if is && !tells || right && tells && !is {
				t.Fatalf("the plain ways are unlike: %v is found at %d of %v; that %d tells it is %v", c, place, nodes, k, tells)
			}
			checkCookie(t, nodes, c, k, is)
		}
	}
}

// checkWherePut asks for a cookie, and that it is right where CookieOf put it, there alone, and ahead of that only where all of it was there.
func checkWherePut(t *testing.T, nodes []impl.Node, c cookieAsk) {
	t.Helper()
	want, k := plainCookie(nodes, c.secret, c.addr, c.hello)
	checkSecret(t, nodes, c.call(), want, k)
	if k < 0 {
		checkNoCookie(t, nodes, c)
		return
	}
	checkOneCookie(t, want, c, k)
	checkSecret(t, want, c.call(), want, k)
	if len(want) != len(nodes) {
		checkNoCookie(t, nodes, c)
	}
}

func mustCookie(t *testing.T, nodes []impl.Node, c cookieAsk) ([]impl.Node, int) {
	t.Helper()
	b, k := mustMake(t, arenaOf(nodes...), c.call())
	return b.Nodes, k
}

// cookieCases are cookies of hellos at 0, 1 and 2, and the nodes that they bring behind these, the last one being the cookie.
func cookieCases() []secretCase {
	of := func(c secretCall, brings ...impl.Node) secretCase { return secretCase{c, brings} }
	return []secretCase{
		of(cookieCall(9000, 3, 0), atomNode(9000), atomNode(3), hashNode(0), atomNode(0), pairNode(5, 6), pairNode(4, 7), macNode(3, 8)),
		of(cookieCall(9000, 4, 0), atomNode(9000), atomNode(4), hashNode(0), atomNode(0), pairNode(5, 6), pairNode(4, 7), macNode(3, 8)),
		of(cookieCall(3, 9000, 2), atomNode(3), atomNode(9000), hashNode(2), atomNode(0), pairNode(5, 6), pairNode(4, 7), macNode(3, 8)),
		of(cookieCall(999999, 1, 1), atomNode(999999), atomNode(1), hashNode(1), atomNode(0), pairNode(5, 6), pairNode(4, 7), macNode(3, 8)),
		of(cookieCall(1, 999999, 1), atomNode(1), atomNode(999999), hashNode(1), atomNode(0), pairNode(5, 6), pairNode(4, 7), macNode(3, 8)),
		of(cookieCall(7, 7, 1), atomNode(7), hashNode(1), atomNode(0), pairNode(4, 5), pairNode(3, 6), macNode(3, 7)),
		of(cookieCall(999999, 999999, 1), atomNode(999999), hashNode(1), atomNode(0), pairNode(4, 5), pairNode(3, 6), macNode(3, 7)),
		of(cookieCall(0, 5, 2), atomNode(0), atomNode(5), hashNode(2), pairNode(5, 3), pairNode(4, 6), macNode(3, 7)),
		of(cookieCall(5, 0, 2), atomNode(5), atomNode(0), hashNode(2), pairNode(5, 4), pairNode(4, 6), macNode(3, 7)),
		of(cookieCall(0, 0, 0), atomNode(0), hashNode(0), pairNode(4, 3), pairNode(3, 5), macNode(3, 6)),
		of(cookieCall(1000, 6, 0), atomNode(6), hashNode(0), atomNode(0), pairNode(4, 5), pairNode(3, 6), macNode(0, 7)),
		of(cookieCall(6, 1001, 0), atomNode(6), hashNode(0), atomNode(0), pairNode(4, 5), pairNode(1, 6), macNode(3, 7)),
	}
}

func TestP9TermsNodeByNode(t *testing.T) {
	for _, c := range cookieCases() {
		checkNodeByNode(t, c)
	}
}

// In an arena of the hello alone, which may be the secret's Atom, that of the address, that of the end, or all of these.
func TestP9HelloAlone(t *testing.T) {
	for hello, want := range map[int][]impl.Node{
		5000: {atomNode(5000), atomNode(9000), atomNode(3), hashNode(0), atomNode(0), pairNode(3, 4), pairNode(2, 5), macNode(1, 6)},
		9000: {atomNode(9000), atomNode(3), hashNode(0), atomNode(0), pairNode(2, 3), pairNode(1, 4), macNode(0, 5)},
		3:    {atomNode(3), atomNode(9000), hashNode(0), atomNode(0), pairNode(2, 3), pairNode(0, 4), macNode(1, 5)},
		0:    {atomNode(0), atomNode(9000), atomNode(3), hashNode(0), pairNode(3, 0), pairNode(2, 4), macNode(1, 5)},
	} {
		checkSecret(t, []impl.Node{atomNode(hello)}, cookieCall(9000, 3, 0), want, len(want)-1)
		checkOneCookie(t, want, cookieAsk{9000, 3, 0}, len(want)-1)
		checkNoCookie(t, want, cookieAsk{3, 9000, 0}, cookieAsk{9000, 3, 1}, cookieAsk{9000, 4, 0}, cookieAsk{9001, 3, 0})
	}
	want := []impl.Node{atomNode(0), hashNode(0), pairNode(1, 0), pairNode(0, 2), macNode(0, 3)}
	checkSecret(t, want[:1], cookieCall(0, 0, 0), want, 4)
	checkOneCookie(t, want, cookieAsk{0, 0, 0}, 4)
}

// One that has others: what is made stands behind them, and of what it is made of only what is just that counts.
func TestP9AmongOthers(t *testing.T) {
	others := []impl.Node{atomNode(10), atomNode(900), pubNode(0), pairNode(0, 1), macNode(0, 1), pairNode(3, 4), macNode(1, 0), sealNode(0, 1), signNode(0, 1), kdfNode(0, 1)}
	for _, c := range cookieCases() {
		checkAmong(t, c, others...)
	}
}

// Some are there already, in another order than they would be made in.
func TestP9SomeAreThere(t *testing.T) {
	nodes := slices.Concat(threeSecrets, []impl.Node{atomNode(0), hashNode(1), atomNode(3), atomNode(9000)})
	want := slices.Concat(nodes, []impl.Node{pairNode(4, 3), pairNode(5, 7), macNode(6, 8)})
	checkSecret(t, nodes, cookieCall(9000, 3, 1), want, 9)
	nodes = slices.Concat(threeSecrets, []impl.Node{hashNode(1), atomNode(0), pairNode(3, 4)})
	want = slices.Concat(nodes, []impl.Node{atomNode(9000), atomNode(3), pairNode(7, 5), macNode(6, 8)})
	checkSecret(t, nodes, cookieCall(9000, 3, 1), want, 9)
	nodes = slices.Concat(threeSecrets, []impl.Node{hashNode(1), atomNode(0), pairNode(3, 4), atomNode(3), pairNode(6, 5)})
	want = slices.Concat(nodes, []impl.Node{atomNode(9000), macNode(8, 7)})
	checkSecret(t, nodes, cookieCall(9000, 3, 1), want, 9)
	for _, c := range cookieCases() {
		for _, first := range []impl.Node{atomNode(0), atomNode(3), atomNode(7), atomNode(9000), atomNode(999999), hashNode(0), hashNode(1), hashNode(2)} {
			nodes := slices.Concat(threeSecrets, []impl.Node{first})
			checkPlain(t, nodes, c.call)
			checkPlain(t, slices.Concat(nodes, []impl.Node{pairNode(3, 3), pairNode(3, 4), macNode(3, 5)}), c.call)
		}
	}
}

// A cookie is right for its own secret, address and hello, and at its own place; whatever of these is another one, it is not.
func TestP9RightAtItsOwnAddressAlone(t *testing.T) {
	numbers := []int{0, 1, 2, 3, 4, 7, 127, 128, 1000, 5000, 9000, 999998, 999999}
	for _, secret := range numbers {
		for _, addr := range numbers {
			nodes, k := mustCookie(t, threeSecrets, cookieAsk{secret, addr, 1})
			checkOneCookie(t, nodes, cookieAsk{secret, addr, 1}, k)
			for _, other := range numbers {
				checkCookie(t, nodes, cookieAsk{secret, other, 1}, k, other == addr)
				checkCookie(t, nodes, cookieAsk{other, addr, 1}, k, other == secret)
				checkCookie(t, nodes, cookieAsk{addr, secret, 1}, k, addr == secret)
			}
			for hello := -1; hello <= len(nodes)+1; hello++ {
				checkCookie(t, nodes, cookieAsk{secret, addr, hello}, k, hello == 1)
			}
		}
	}
}

// The address changed: the next cookie is another term, and each is right at its own address.
func TestP9AddressesThatChanged(t *testing.T) {
	nodes := slices.Clone(threeSecrets)
	places := make([]int, 200)
	for addr := range places {
		nodes, places[addr] = mustCookie(t, nodes, cookieAsk{9000, addr, 0})
	}
	if !impl.ArenaOk(arenaOf(nodes...)) {
		t.Fatal("what is made makes an arena that is not right")
	}
	for addr := range places {
		for other, k := range places {
			checkCookie(t, nodes, cookieAsk{9000, addr, 0}, k, addr == other)
		}
	}
}

// All cookies of some secrets, addresses and hellos stand in one arena: each is one place, is found again there, and is no other one.
func TestP9UnlikeCookies(t *testing.T) {
	var asks []cookieAsk
	for _, secret := range []int{0, 1, 3, 1000} {
		for _, addr := range []int{0, 1, 3, 1001} {
			for hello := range threeSecrets {
				asks = append(asks, cookieAsk{secret, addr, hello})
			}
		}
	}
	nodes, places := threeSecrets, make([]int, len(asks))
	for i, c := range asks {
		nodes, places[i] = mustCookie(t, nodes, c)
	}
	for i, c := range asks {
		checkOneCookie(t, nodes, c, places[i])
		checkSecret(t, nodes, c.call(), nodes, places[i])
	}
}

// A hello is a term of any kind: also a cookie, and what it is made of. One hello in another's place is another one.
func TestP9AnyHello(t *testing.T) {
	nodes := slices.Concat(threeSecrets, []impl.Node{hashNode(0), kdfNode(0, 1), pubNode(1), dhNode(0, 1), signNode(0, 1), macNode(0, 1), sealNode(0, 1), pairNode(0, 1)})
	nodes, _ = mustCookie(t, nodes, cookieAsk{9000, 3, 1})
	for hello := range nodes {
		with, k := mustCookie(t, nodes, cookieAsk{9000, 3, hello})
		checkOneCookie(t, with, cookieAsk{9000, 3, hello}, k)
		for other := -1; other <= len(with)+1; other++ {
			checkCookie(t, with, cookieAsk{9000, 3, other}, k, other == hello)
		}
	}
}

// Terms that are like a cookie in all but one node are none.
func TestP9TermsThatAreNoCookie(t *testing.T) {
	right, k := mustCookie(t, threeSecrets, cookieAsk{9000, 3, 0}) // Atom 9000 at 3, Atom 3 at 4, TmHash at 5, Atom 0 at 6, pairs at 7 and 8
	ask := cookieAsk{9000, 3, 0}
	for kind := 0; kind <= 10; kind++ {
		nodes := slices.Clone(right)
		nodes[k].Kind = kind
		checkCookie(t, nodes, ask, k, kind == impl.TmMac)
	}
	for at, others := range map[int][]impl.Node{
		3: {atomNode(3), atomNode(0), hashNode(0), pairNode(0, 1), pubNode(0)},
		4: {atomNode(9000), atomNode(0), hashNode(0), pairNode(0, 1), pubNode(0)},
		5: {atomNode(0), pubNode(0), hashNode(1), hashNode(2), hashNode(4), pairNode(0, 0), macNode(0, 0)},
		6: {atomNode(1), atomNode(3), hashNode(0), pairNode(5, 4), pairNode(0, 0)},
		7: {pairNode(5, 3), pairNode(4, 6), pairNode(0, 6), pairNode(6, 5), macNode(5, 6), sealNode(5, 6), atomNode(0), hashNode(5)},
		8: {pairNode(3, 7), pairNode(0, 7), pairNode(4, 6), pairNode(7, 4), pairNode(4, 5), macNode(4, 7), kdfNode(4, 7), atomNode(0), hashNode(5)},
		9: {macNode(4, 8), macNode(8, 3), macNode(3, 7), macNode(3, 5), macNode(0, 8), kdfNode(3, 8), sealNode(3, 8), signNode(3, 8), pairNode(3, 8), dhNode(3, 8)},
	} {
		for _, other := range others {
			nodes := slices.Clone(right)
			nodes[at] = other
			checkNoCookie(t, nodes, ask)
			checkCookiesPlain(t, nodes, ask, cookieAsk{0, 3, 0}, cookieAsk{3, 9000, 0}, cookieAsk{9000, 0, 0}, cookieAsk{9000, 3, 1}, cookieAsk{0, 0, 0})
		}
	}
}

// A List of one, of three, and one that ends with another Atom, have none.
func TestP9ListsOfOtherLengths(t *testing.T) {
	right, _ := mustCookie(t, threeSecrets, cookieAsk{9000, 3, 0})
	for _, more := range [][]impl.Node{
		{macNode(3, 7)},
		{pairNode(4, 5), macNode(3, 10)},
		{pairNode(4, 6), macNode(3, 10)},
		{pairNode(4, 8), macNode(3, 10)},
		{pairNode(5, 7), pairNode(4, 10), macNode(3, 11)},
		{pairNode(5, 8), macNode(3, 10)},
		{pairNode(5, 4), pairNode(4, 10), macNode(3, 11)},
		{pairNode(4, 6), pairNode(5, 10), macNode(3, 11)},
	} {
		nodes := slices.Concat(right, more)
		checkOneCookie(t, nodes, cookieAsk{9000, 3, 0}, 9)
		checkNoCookie(t, nodes, cookieAsk{9000, 0, 0}, cookieAsk{0, 3, 0}, cookieAsk{0, 0, 0})
	}
}

// Where a term is no Atom it has no number, also not 0; where it is no TmHash there is no hello, also not the first one.
func TestP9NothingIsNotZero(t *testing.T) {
	none := []cookieAsk{{0, 0, 0}, {0, 3, 0}, {9000, 0, 0}, {9000, 3, 0}}
	first := []impl.Node{pubNode(1), atomNode(9000), atomNode(3), atomNode(0), hashNode(0)}
	for _, list := range [][]impl.Node{
		{pairNode(2, 3), pairNode(4, 5), macNode(1, 6)}, // addr and hello turned
		{pairNode(0, 3), pairNode(2, 5), macNode(1, 6)}, // no TmHash
		{pairNode(4, 3), pairNode(0, 5), macNode(1, 6)}, // no addr
		{pairNode(4, 3), pairNode(2, 5), macNode(0, 6)}, // no secret
		{pairNode(4, 3), pairNode(4, 5), macNode(4, 6)},
	} {
		checkNoCookie(t, slices.Concat(first, list), none...)
	}
	checkNoCookie(t, nil, none...)
	checkNoCookie(t, []impl.Node{macNode(0, 0)}, none...)
	checkNoCookie(t, []impl.Node{atomNode(0), macNode(0, 0)}, none...)
}

// Limits that are met are accepted, and those that are passed by one refused.
func TestP9Limits(t *testing.T) {
	for _, number := range []int{0, 999999} {
		for _, c := range []cookieAsk{{number, 3, 1}, {9000, number, 1}, {number, number, 1}} {
			nodes, k := mustCookie(t, threeSecrets, c)
			checkOneCookie(t, nodes, c, k)
			checkPlain(t, threeSecrets, c.call())
		}
	}
	for _, number := range []int{-1, -2, -999999, 1000000, 1000001, 1 << 32, 1<<32 + 3, math.MaxInt, math.MinInt, math.MinInt + 3} {
		wrong := []cookieAsk{{number, 3, 1}, {9000, number, 1}, {number, number, 1}, {number, 0, 0}, {0, number, 0}}
		for _, nodes := range [][]impl.Node{nil, threeSecrets, {atomNode(9000), atomNode(3), hashNode(0)}} {
			for _, c := range wrong {
				checkRefused(t, nodes, c.call())
			}
		}
		nodes, _ := mustCookie(t, threeSecrets, cookieAsk{9000, 3, 1})
		nodes, _ = mustCookie(t, nodes, cookieAsk{0, 0, 0})
		checkNoCookie(t, nodes, wrong...)
	}
}

// What others put with a number that is none is not right, and no cookie of that number.
func TestP9NumbersThatAreNone(t *testing.T) {
	for _, number := range []int{-1, 1000000, math.MaxInt, math.MinInt} {
		right, _ := mustCookie(t, threeSecrets, cookieAsk{9000, 3, 0})
		for _, at := range []int{3, 4} {
			nodes := slices.Clone(right)
			nodes[at] = atomNode(number)
			checkNoCookie(t, nodes, cookieAsk{number, 3, 0}, cookieAsk{9000, number, 0}, cookieAsk{9000, 3, 0}, cookieAsk{0, 3, 0}, cookieAsk{9000, 0, 0})
		}
	}
}

// Places below 0 and past the end, as hello and as cookie.
func TestP9PlacesThatAreNone(t *testing.T) {
	nodes, cookie := mustCookie(t, threeSecrets, cookieAsk{9000, 3, 0})
	for _, has := range [][]impl.Node{nil, threeSecrets, nodes} {
		for _, k := range append(slices.Clone(outside), len(has)+2, len(has)+3, len(has)+7) {
			checkRefused(t, has, cookieCall(9000, 3, k), cookieCall(0, 0, k), cookieCall(999999, 1, k))
			checkCookie(t, has, cookieAsk{9000, 3, k}, cookie, false)
			checkCookie(t, has, cookieAsk{9000, 3, 0}, k, false)
			checkCookie(t, has, cookieAsk{9000, 3, k}, k, false)
		}
		for _, k := range append(slices.Clone(outside), len(has), len(has)+1, len(has)+5, len(has)+6) {
			checkNoCookie(t, has, cookieAsk{9000, 3, k}, cookieAsk{9001, 4, k})
			checkCookie(t, has, cookieAsk{9001, 4, 0}, k, false)
		}
	}
}

// Whether the hello is there is asked when its TmHash is put: up to the Atoms that the call brought till then, and no further.
func TestP9HellosThatTheCallBrings(t *testing.T) {
	with := func(nodes []impl.Node, more ...impl.Node) []impl.Node { return slices.Concat(nodes, more) }
	for _, hello := range []int{0, 1} {
		want := []impl.Node{atomNode(9000), atomNode(3), hashNode(hello), atomNode(0), pairNode(2, 3), pairNode(1, 4), macNode(0, 5)}
		checkSecret(t, nil, cookieCall(9000, 3, hello), want, 6)
		checkOneCookie(t, want, cookieAsk{9000, 3, hello}, 6)
		want = with(threeSecrets, atomNode(9000), atomNode(3), hashNode(3+hello), atomNode(0), pairNode(5, 6), pairNode(4, 7), macNode(3, 8))
		checkSecret(t, threeSecrets, cookieCall(9000, 3, 3+hello), want, 9)
		checkOneCookie(t, want, cookieAsk{9000, 3, 3 + hello}, 9)
	}
	checkRefused(t, nil, cookieCall(9000, 3, 2), cookieCall(9000, 3, 3), cookieCall(7, 7, 1))
	checkRefused(t, threeSecrets, cookieCall(9000, 3, 5), cookieCall(7, 7, 4), cookieCall(1000, 3, 4), cookieCall(9000, 1001, 4), cookieCall(1000, 1001, 3))

	// Where both Atoms are there already, they bring no place.
	nodes := []impl.Node{atomNode(9000), atomNode(3)}
	checkRefused(t, nodes, cookieCall(9000, 3, 2), cookieCall(3, 9000, 2), cookieCall(3, 3, 2))
	checkSecret(t, nodes, cookieCall(9000, 4, 2), with(nodes, atomNode(4), hashNode(2), atomNode(0), pairNode(3, 4), pairNode(2, 5), macNode(0, 6)), 7)
}

// A hello that is a node that is not right may still be hashed, as of Make; its cookie is right.
func TestP9HelloThatIsNotRight(t *testing.T) {
	for _, wrong := range wrongNodes {
		nodes := slices.Concat(threeSecrets, []impl.Node{wrong})
		want := slices.Concat(nodes, []impl.Node{atomNode(9000), atomNode(3), hashNode(3), atomNode(0), pairNode(6, 7), pairNode(5, 8), macNode(4, 9)})
		checkSecret(t, nodes, cookieCall(9000, 3, 3), want, 10)
		checkOneCookie(t, want, cookieAsk{9000, 3, 3}, 10)
		checkNoCookie(t, want, cookieAsk{9000, 3, 0}, cookieAsk{9000, 4, 3}, cookieAsk{9001, 3, 3})
		other := slices.Concat(nodes, []impl.Node{atomNode(9000), atomNode(3), hashNode(1), atomNode(0), pairNode(6, 7), pairNode(5, 8), macNode(4, 9)})
		checkSecret(t, nodes, cookieCall(9000, 3, 1), other, 10)
		checkOneCookie(t, other, cookieAsk{9000, 3, 1}, 10)
	}
}

// cookieAsks are asks at every place of an arena of that many nodes, and beside them.
func cookieAsks(end int) []cookieAsk {
	var asks []cookieAsk
	for hello := -1; hello <= end+2; hello++ {
		for _, numbers := range [][2]int{{0, 0}, {0, 1}, {1, 0}, {1, 1}, {1, 2}, {2, 1}, {9000, 3}, {3, 9000}, {-1, 1}, {1, -1}, {1000000, 3}, {3, 1000000}} {
			asks = append(asks, cookieAsk{numbers[0], numbers[1], hello})
		}
	}
	return asks
}

func cookieCalls(end int) []secretCall {
	var calls []secretCall
	for _, c := range cookieAsks(end) {
		calls = append(calls, c.call())
	}
	return calls
}

// A node that would be right nowhere, wherever it stands: in a cookie it makes it none, elsewhere it is not asked after.
func TestP9WrongNodes(t *testing.T) {
	right, cookie := mustCookie(t, threeSecrets, cookieAsk{9000, 3, 0})
	for _, wrong := range wrongNodes {
		for at := range right {
			nodes := slices.Clone(right)
			nodes[at] = wrong
			checkCookie(t, nodes, cookieAsk{9000, 3, 0}, cookie, at < 3)
			checkCookiesPlain(t, nodes, cookieAsks(3)...)
			checkPlain(t, nodes, cookieCalls(len(nodes))...)
		}
		behind := slices.Concat(right, []impl.Node{wrong})
		checkOneCookie(t, behind, cookieAsk{9000, 3, 0}, cookie)
		checkSecret(t, behind, cookieCall(9000, 3, 0), behind, cookie)
	}
	for _, kind := range []int{0, -1, 10, 1 << 32, impl.TmMac + 1<<32} {
		nodes := slices.Clone(right)
		nodes[cookie].Kind = kind
		checkNoCookie(t, nodes, cookieAsk{9000, 3, 0})
	}
}

// What a node has that its kind has not makes it none of its kind.
func TestP9NodesWithMore(t *testing.T) {
	right, cookie := mustCookie(t, threeSecrets, cookieAsk{9000, 3, 0})
	for at, n := range right {
		for _, more := range []impl.Node{{Num: 1}, {A: 1}, {B: 1}} {
			has := impl.Node{Kind: n.Kind, Num: n.Num + more.Num, A: n.A + more.A, B: n.B + more.B}
			nodes := slices.Clone(right)
			nodes[at] = has
			checkCookie(t, nodes, cookieAsk{9000, 3, 0}, cookie, at < 3)
			checkCookiesPlain(t, nodes, cookieAsks(3)...)
			checkPlain(t, nodes, cookieCalls(3)...)
		}
	}
}

// Terms that stand ahead of what they have are found there, as Put finds them: the cookie is right where CookieOf answers it.
func TestP9TermsThatStandAheadOfWhatTheyHave(t *testing.T) {
	for _, c := range []struct {
		nodes []impl.Node
		hello int
		more  []impl.Node
		k     int
	}{
		{[]impl.Node{atomNode(0), atomNode(1), pairNode(4, 0), atomNode(5)}, 0, []impl.Node{hashNode(0), pairNode(1, 2), macNode(3, 5)}, 6},
		{[]impl.Node{atomNode(0), atomNode(1), pairNode(1, 5), atomNode(5)}, 0, []impl.Node{hashNode(0), pairNode(4, 0), macNode(3, 2)}, 6},
		{[]impl.Node{atomNode(0), atomNode(1), hashNode(3), atomNode(5)}, 3, []impl.Node{pairNode(2, 0), pairNode(1, 4), macNode(3, 5)}, 6},
		{[]impl.Node{atomNode(0), atomNode(1), macNode(3, 6), atomNode(5)}, 0, []impl.Node{hashNode(0), pairNode(4, 0), pairNode(1, 5)}, 2},
		{[]impl.Node{macNode(3, 1), pairNode(4, 2), pairNode(5, 6)}, 0, []impl.Node{atomNode(5), atomNode(1), hashNode(0), atomNode(0)}, 0},
		{[]impl.Node{hashNode(0)}, 0, []impl.Node{atomNode(5), atomNode(1), atomNode(0), pairNode(0, 3), pairNode(2, 4), macNode(1, 5)}, 6},
	} {
		ask := cookieAsk{5, 1, c.hello}
		all := slices.Concat(c.nodes, c.more)
		checkSecret(t, c.nodes, ask.call(), all, c.k)
		checkSecret(t, all, ask.call(), all, c.k)
		checkOneCookie(t, all, ask, c.k)
		for end := len(c.nodes); end < len(all); end++ { // what is missing is not put, also not where it would come to stand
			checkNoCookie(t, all[:end], ask)
		}
		checkNoCookie(t, all, cookieAsk{5, 2, c.hello}, cookieAsk{5, 0, c.hello}, cookieAsk{6, 1, c.hello}, cookieAsk{1, 1, c.hello}, cookieAsk{1, 5, c.hello}, cookieAsk{5, 1, 1}, cookieAsk{5, 1, c.hello - 1}, cookieAsk{5, 1, len(all)})
	}
}

// Terms that have themselves, or each other: Put asks only whether they would be right behind all others.
func TestP9TermsThatHaveThemselves(t *testing.T) {
	for _, c := range []struct {
		nodes []impl.Node
		hello int // -1: none of them makes a cookie
		k     int
	}{
		{[]impl.Node{atomNode(9000), atomNode(3), hashNode(2), atomNode(0), pairNode(2, 3), pairNode(1, 4), macNode(0, 5)}, 2, 6},
		{[]impl.Node{atomNode(9000), atomNode(3), hashNode(6), atomNode(0), pairNode(2, 3), pairNode(1, 4), macNode(0, 5)}, 6, 6},
		{[]impl.Node{macNode(1, 6), atomNode(9000), atomNode(3), hashNode(0), atomNode(0), pairNode(3, 4), pairNode(2, 5)}, 0, 0},
		{[]impl.Node{atomNode(9000), atomNode(3), hashNode(7), atomNode(0), pairNode(2, 3), pairNode(1, 4), macNode(0, 5)}, -1, 0},
		{[]impl.Node{atomNode(9000), atomNode(3), hashNode(0), atomNode(0), pairNode(2, 3), pairNode(1, 5), macNode(0, 5)}, -1, 0},
		{[]impl.Node{atomNode(9000), atomNode(3), hashNode(0), atomNode(0), pairNode(2, 4), pairNode(1, 4), macNode(0, 5)}, -1, 0},
		{[]impl.Node{atomNode(9000), atomNode(3), hashNode(0), atomNode(0), pairNode(2, 3), pairNode(1, 4), macNode(0, 6)}, -1, 0},
		{[]impl.Node{atomNode(9000), atomNode(3), hashNode(0), atomNode(0), pairNode(2, 3), pairNode(1, 4), macNode(6, 5)}, -1, 0},
		{[]impl.Node{atomNode(9000), atomNode(3), hashNode(0), atomNode(0), pairNode(2, 3), pairNode(1, 4), macNode(0, 7)}, -1, 0},
	} {
		for hello := -1; hello <= len(c.nodes)+1; hello++ {
			ask := cookieAsk{9000, 3, hello}
			if c.hello >= 0 && hello == c.hello {
				checkSecret(t, c.nodes, ask.call(), c.nodes, c.k)
				checkOneCookie(t, c.nodes, ask, c.k)
			} else {
				checkNoCookie(t, c.nodes, ask)
			}
		}
		checkCookiesPlain(t, c.nodes, cookieAsks(len(c.nodes))...)
		checkPlain(t, c.nodes, cookieCalls(len(c.nodes))...)
	}
}

// inOrders hands out all orders of 0 .. n less 1.
func inOrders(n int, each func(places []int)) {
	places := make([]int, n)
	var from func(i int)
	from = func(i int) {
		if i == n {
			each(places)
			return
		}
		for k := range i + 1 {
			copy(places[k+1:i+1], places[k:i])
			places[k] = i
			from(i + 1)
			copy(places[k:i], places[k+1:i+1])
		}
	}
	from(0)
}

// drawPlaces are places in a drawn order, or in their own but for two that change places, so that many nodes are still right.
func drawPlaces(draw *rand.Rand, n int) []int {
	if draw.Intn(2) == 0 {
		return draw.Perm(n)
	}
	places := everyPlace(n)
	x, y := draw.Intn(n), draw.Intn(n)
	places[x], places[y] = places[y], places[x]
	return places
}

// moved has each node at another place, and what it has where that came to stand.
func moved(nodes []impl.Node, places []int) []impl.Node {
	out := make([]impl.Node, len(nodes))
	for k, n := range nodes {
		if parts := partsOfKind(n.Kind); parts > 0 {
			n.A = places[n.A]
			if parts == 2 {
				n.B = places[n.B]
			}
		}
		out[places[k]] = n
	}
	return out
}

// The nodes of a cookie in any order: it is right where its TmMac stands, and nowhere else.
func TestP9AnyOrder(t *testing.T) {
	for _, c := range []cookieAsk{{5, 1, 0}, {7, 7, 0}, {0, 5, 0}, {0, 0, 0}} {
		nodes, cookie := mustCookie(t, []impl.Node{atomNode(0)}, c)
		orders := 0
		inOrders(len(nodes), func(places []int) {
			orders++
			all, ask := moved(nodes, places), cookieAsk{c.secret, c.addr, places[c.hello]}
			checkSecret(t, all, ask.call(), all, places[cookie])
			checkOneCookie(t, all, ask, places[cookie])
			checkNoCookie(t, all, cookieAsk{c.secret, c.addr + 1, ask.hello}, cookieAsk{c.secret + 1, c.addr, ask.hello}, cookieAsk{c.secret, c.addr, places[1]}, cookieAsk{c.secret, c.addr, len(all)})
		})
		if want := map[int]int{5: 120, 6: 720, 7: 5040}[len(nodes)]; orders != want {
			t.Errorf("%d orders of %d nodes; want %d", orders, len(nodes), want)
		}
	}
}

// A beginning of them, in any order: what is missing is put, or can't be; where it was put the cookie is right.
func TestP9AnyOrderCutOff(t *testing.T) {
	for _, c := range []cookieAsk{{5, 1, 0}, {7, 7, 0}, {0, 0, 0}} {
		nodes, _ := mustCookie(t, []impl.Node{atomNode(0)}, c)
		inOrders(len(nodes), func(places []int) {
			all := moved(nodes, places)
			for end := range all {
				checkWherePut(t, all[:end], cookieAsk{c.secret, c.addr, places[c.hello]})
			}
		})
	}
}

// The nodes of a cookie in any order, one of them being there once more: only what is made of the first ones is it.
func TestP9AnyOrderAndOneTwice(t *testing.T) {
	c := cookieAsk{0, 0, 0}
	nodes, cookie := mustCookie(t, []impl.Node{atomNode(0)}, c)
	inOrders(len(nodes), func(places []int) {
		all := moved(nodes, places)
		ask := cookieAsk{c.secret, c.addr, places[c.hello]}
		for _, n := range all {
			behind := slices.Concat(all, []impl.Node{n})
			checkOneCookie(t, behind, ask, places[cookie])
			for at := range behind {
				twice := slices.Clone(behind)
				twice[at].A = len(all) // of the later one
				checkCookiesPlain(t, twice, ask, cookieAsk{0, 0, len(all)})
				checkWherePut(t, twice, ask)
			}
		}
	})
}

// Of nodes that are there twice the first one is found; a later cookie, and one of later ones, is another term.
func TestP9NodesTwice(t *testing.T) {
	nodes := []impl.Node{secretAtom(0), secretAtom(0), atomNode(9000), atomNode(3), atomNode(9000), atomNode(3), atomNode(0), atomNode(0), hashNode(0), hashNode(0), hashNode(1)}
	want := slices.Concat(nodes, []impl.Node{pairNode(8, 6), pairNode(3, 11), macNode(2, 12)})
	checkSecret(t, nodes, cookieCall(9000, 3, 0), want, 13)
	checkOneCookie(t, want, cookieAsk{9000, 3, 0}, 13)
	twice := slices.Concat(want, []impl.Node{macNode(2, 12), pairNode(9, 7), pairNode(5, 15), macNode(4, 16)})
	checkSecret(t, twice, cookieCall(9000, 3, 0), twice, 13)
	checkOneCookie(t, twice, cookieAsk{9000, 3, 0}, 13)
	checkNoCookie(t, twice, cookieAsk{9000, 3, 1}, cookieAsk{9000, 4, 0})
	other := slices.Concat(nodes, []impl.Node{pairNode(10, 6), pairNode(3, 11), macNode(2, 12)})
	checkSecret(t, nodes, cookieCall(9000, 3, 1), other, 13)
	checkOneCookie(t, other, cookieAsk{9000, 3, 1}, 13)
	checkNoCookie(t, other, cookieAsk{9000, 3, 0})
	for _, later := range [][]impl.Node{
		{pairNode(8, 6), pairNode(3, 11), macNode(4, 12)},
		{pairNode(8, 6), pairNode(5, 11), macNode(2, 12)},
		{pairNode(8, 7), pairNode(3, 11), macNode(2, 12)},
		{pairNode(9, 6), pairNode(3, 11), macNode(2, 12)},
		{pairNode(8, 6), pairNode(8, 6), pairNode(3, 12), macNode(2, 13)},
		{pairNode(8, 6), pairNode(3, 11), pairNode(3, 11), macNode(2, 13)},
	} {
		has := slices.Concat(nodes, later)
		checkNoCookie(t, has, cookieAsk{9000, 3, 0})
		checkWherePut(t, has, cookieAsk{9000, 3, 0})
	}
	for _, has := range [][]impl.Node{nodes, want, twice, other} {
		checkCookiesPlain(t, has, cookieAsks(len(has))...)
		checkPlain(t, has, cookieCalls(len(has))...)
	}
}

func TestP9Room(t *testing.T) {
	for _, c := range cookieCases() {
		checkRoom(t, c)
	}
}

// One of the Atoms, the TmHash or a pair is there, and what is behind it has room or not; a hello that would be one of what is brought, too.
func TestP9RoomWithSomeThere(t *testing.T) {
	for _, first := range [][]impl.Node{{atomNode(0)}, {atomNode(3)}, {atomNode(9000)}, {atomNode(3), atomNode(9000)}, {hashNode(0)}, {hashNode(1), atomNode(0), pairNode(3, 4)}, {atomNode(7), hashNode(1)}} {
		for room := range 9 {
			nodes := fullBut(room, first...)
			for _, c := range cookieCases() {
				checkPlain(t, nodes, c.call)
			}
			for end := len(nodes); end <= len(nodes)+3; end++ {
				checkPlain(t, nodes, cookieCall(20001, 20002, end), cookieCall(20001, 3, end), cookieCall(0, 0, end))
				checkNoCookie(t, nodes, cookieAsk{20001, 20002, end})
			}
		}
	}
}

// A cookie at the very end of a full arena is right there, and also in one that is too long; what is asked for needs no room.
func TestP9FullArena(t *testing.T) {
	ask := cookieAsk{9000, 3, 0}
	nodes, cookie := mustCookie(t, fullBut(5, atomNode(9000), atomNode(0)), ask)
	if len(nodes) != impl.MaxNodes || cookie != impl.MaxNodes-1 {
		t.Fatalf("a cookie at %d of %d nodes; want the last one of %d", cookie, len(nodes), impl.MaxNodes)
	}
	over := slices.Concat(nodes, []impl.Node{pubNode(0), pubNode(1)})
	for _, has := range [][]impl.Node{nodes, over} {
		checkOneCookie(t, has, ask, cookie)
		checkSecret(t, has, ask.call(), has, cookie)
		checkNoCookie(t, has, cookieAsk{9000, 4, 0}, cookieAsk{9000, 5001, 0}, cookieAsk{5001, 3, 0}, cookieAsk{9000, 3, 1}, cookieAsk{3, 9000, 0}, cookieAsk{60000, 3, 0})
		checkRefused(t, has, cookieCall(9000, 4, 0), cookieCall(9000, 5001, 0), cookieCall(5001, 3, 0), cookieCall(9000, 3, 1), cookieCall(60000, 3, 0), cookieCall(0, 0, 0))
	}
	one := slices.Concat(nodes[:cookie], []impl.Node{pubNode(0)}) // all but the cookie itself
	checkNoCookie(t, one, ask)
	checkRefused(t, one, ask.call())
}

// A TmMac ahead of all that it has, which comes to stand at the end of a full arena: it is right as soon as all of that is there.
func TestP9FullArenaWithTheCookieAhead(t *testing.T) {
	ask, end := cookieAsk{9000, 3, 0}, impl.MaxNodes
	nodes := fullBut(4, atomNode(9000), atomNode(0), macNode(3, end-1))
	want := slices.Concat(nodes, []impl.Node{atomNode(3), hashNode(0), pairNode(end-3, 4), pairNode(end-4, end-2)})
	checkSecret(t, nodes, ask.call(), want, 5)
	for _, has := range [][]impl.Node{want, slices.Concat(want, []impl.Node{pubNode(0)})} {
		checkOneCookie(t, has, ask, 5)
		checkSecret(t, has, ask.call(), has, 5)
		checkNoCookie(t, has, cookieAsk{9000, 4, 0}, cookieAsk{9001, 3, 0}, cookieAsk{9000, 3, 1})
	}
	checkNoCookie(t, nodes, ask)
	checkNoCookie(t, want[:end-1], ask)
}

// What is asked for is not put: an arena that lacks the last node alone has no cookie, also not where it would come to stand.
func TestP9WhatIsAskedForIsNotPut(t *testing.T) {
	for _, c := range []cookieAsk{{9000, 3, 0}, {7, 7, 1}, {0, 0, 2}} {
		nodes, cookie := mustCookie(t, threeSecrets, c)
		for end := range nodes {
			checkNoCookie(t, nodes[:end], c)
			checkCookie(t, nodes[:end], c, cookie, false)
		}
		checkOneCookie(t, nodes, c, cookie)
	}
}

// Who hears a cookie, and knows all of its numbers but the secret, can make none for another address.
func TestP9WhoHearsACookie(t *testing.T) {
	nodes := threeSecrets
	nodes, heard := mustCookie(t, nodes, cookieAsk{1000, 3, 1})
	nodes, other := mustCookie(t, nodes, cookieAsk{1000, 4, 1})
	a := arenaOf(nodes...)
	if impl.Derives(a, []int{heard, 1, 2}, other) || impl.Derives(a, []int{heard, 1, 2}, 0) {
		t.Errorf("who hears a cookie of %v has one of another address, or the secret", nodes)
	}
	if !impl.Derives(a, []int{0, 1}, heard) || !impl.Derives(a, []int{0, 1}, other) {
		t.Errorf("who has the secret of %v has not its cookies", nodes)
	}
}

// drawCookieNode is often one of those of which cookies are made.
func drawCookieNode(draw *rand.Rand, k int) impl.Node {
	nums := []int{0, 0, 1, 1, 2, 3, 9000}
	switch draw.Intn(8) {
	case 0:
		return drawNode(draw, k)
	case 1, 2:
		return atomNode(nums[draw.Intn(len(nums))])
	case 3:
		return hashNode(draw.Intn(k + 1))
	case 4:
		return macNode(draw.Intn(k+1), draw.Intn(k+1))
	}
	return pairNode(draw.Intn(k+1), draw.Intn(k+1))
}

// Drawn arenas, many of them not right: both functions answer as the plain way does.
func TestP9DrawnArenas(t *testing.T) {
	draw := rand.New(rand.NewSource(12))
	for range 300 {
		nodes := drawNodes(draw, 9, drawCookieNode)
		checkPlain(t, nodes, cookieCalls(len(nodes))...)
		checkCookiesPlain(t, nodes, cookieAsks(len(nodes))...)
		for _, c := range cookieAsks(len(nodes)) {
			checkWherePut(t, nodes, c)
		}
	}
}

// Cookies in a drawn order, some of what is there being drawn anew, once more there, or gone: a cookie is right where it is put.
func TestP9DrawnOrders(t *testing.T) {
	draw := rand.New(rand.NewSource(14))
	for range 3000 {
		nodes := slices.Clone(threeSecrets)
		var asks []cookieAsk
		for range 1 + draw.Intn(3) {
			c := cookieAsk{draw.Intn(3), draw.Intn(3), draw.Intn(len(nodes))}
			nodes, _ = mustCookie(t, nodes, c)
			asks = append(asks, c)
		}
		places := draw.Perm(len(nodes))
		nodes = moved(nodes, places)
		for i := range asks {
			asks[i].hello = places[asks[i].hello]
		}
		checkCookiesPlain(t, nodes, asks...)
		switch at := draw.Intn(len(nodes)); draw.Intn(3) {
		case 0:
			nodes[at] = drawCookieNode(draw, len(nodes))
		case 1:
			nodes[at] = nodes[draw.Intn(len(nodes))]
		case 2:
			nodes = nodes[:at]
		}
		checkCookiesPlain(t, nodes, asks...)
		for _, c := range asks {
			checkWherePut(t, nodes, c)
		}
	}
}

// Cookies of which one node is drawn anew: each place answers as the plain way does.
func TestP9DrawnCookies(t *testing.T) {
	draw := rand.New(rand.NewSource(13))
	for range 300 {
		nodes := slices.Clone(threeSecrets)
		var asks []cookieAsk
		for range 4 {
			c := cookieAsk{draw.Intn(3), draw.Intn(3), draw.Intn(len(nodes))}
			nodes, _ = mustCookie(t, nodes, c)
			asks = append(asks, c, cookieAsk{c.addr, c.secret, c.hello}, cookieAsk{c.secret, c.addr + 1, c.hello}, cookieAsk{c.secret, c.addr, c.hello + 1})
		}
		checkCookiesPlain(t, nodes, asks...)
		at := draw.Intn(len(nodes))
		nodes[at] = drawCookieNode(draw, at)
		checkCookiesPlain(t, nodes, asks...)
	}
}

func TestP9AnswersAreNewMemory(t *testing.T) {
	nodes, cookie := mustCookie(t, threeSecrets, cookieAsk{9000, 3, 0})
	for _, end := range []int{0, 3, 6, len(nodes)} {
		checkNewMemory(t, nodes[:end], cookieCalls(end))
	}
	for _, end := range []int{0, 3, cookie, len(nodes)} {
		checkOnlyRead(t, nodes[:end], func(a impl.Arena, k int) {
			impl.CookieOk(a, 9000, 3, 0, k)
			impl.CookieOk(a, 9001, 4, 1, k)
		})
	}
}
