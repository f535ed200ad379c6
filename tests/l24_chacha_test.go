package tests

import (
	"math"
	"math/rand"
	"slices"
	"strings"
	"testing"

	"loop.example/g00466/impl"
)

const most32 = 4294967295

// modulo32 is n modulo 2 to the 32, also below 0.
func modulo32(n int) int {
	n %= most32 + 1
	if n < 0 {
		n += most32 + 1
	}
	return n
}

// plainQuarter is as RFC 8439 tells it, by plain sums and products.
func plainQuarter(a, b, c, d int) []int {
	left := func(n, by int) int { return modulo32(n<<by) + n>>(32-by) }
	a, b, c, d = modulo32(a), modulo32(b), modulo32(c), modulo32(d)
	a = modulo32(a + b)
	d = left(d^a, 16)
	c = modulo32(c + d)
	b = left(b^c, 12)
	a = modulo32(a + b)
	d = left(d^a, 8)
	c = modulo32(c + d)
	b = left(b^c, 7)
	return []int{a, b, c, d}
}

func plainLowest(n, count int) string {
	var text []byte
	for range count {
		text = append(text, byte(n%256))
		n /= 256
	}
	return string(text)
}

func plainOfLowest(text string) int {
	n := 0
	for i := len(text) - 1; i >= 0; i-- {
		n = 256*n + int(text[i])
	}
	return n
}

func plainChaBlock(state []int) string {
	if len(state) != 16 || slices.ContainsFunc(state, func(n int) bool { return n < 0 || n > most32 }) {
		return ""
	}
	next := slices.Clone(state)
	for range 10 {
		for _, at := range [][]int{{0, 4, 8, 12}, {1, 5, 9, 13}, {2, 6, 10, 14}, {3, 7, 11, 15}, {0, 5, 10, 15}, {1, 6, 11, 12}, {2, 7, 8, 13}, {3, 4, 9, 14}} {
			for i, n := range plainQuarter(next[at[0]], next[at[1]], next[at[2]], next[at[3]]) {
				next[at[i]] = n
			}
		}
	}
	text := ""
	for i, n := range next {
		text += plainLowest(modulo32(n+state[i]), 4)
	}
	return text
}

func plainChaStart(key, nonce string, count int) ([]int, bool) {
	if len(key) != 32 || len(nonce) != 12 || count < 0 || count > most32 {
		return nil, false
	}
	var state []int
	for text := "expand 32-byte k" + key + plainLowest(count, 4) + nonce; text != ""; text = text[4:] {
		state = append(state, plainOfLowest(text[:4]))
	}
	return state, true
}

func plainStream(key, nonce string, count, n int) (string, bool) {
	if _, ok := plainChaStart(key, nonce, count); !ok || n < 0 || n > 10000 {
		return "", false
	}
	text := ""
	for len(text) < n {
		state, _ := plainChaStart(key, nonce, count)
		text += plainChaBlock(state)
		count = modulo32(count + 1)
	}
	return text[:n], true
}

func plainXor(a, b string) string {
	var text []byte
	for i := range min(len(a), len(b)) {
		text = append(text, a[i]^b[i])
	}
	return string(text)
}

func checkQuarter(t *testing.T, a, b, c, d int, want []int) {
	t.Helper()
	if got := impl.QuarterTurn(a, b, c, d); !slices.Equal(got, want) {
		t.Fatalf("QuarterTurn(%d, %d, %d, %d) = %x; want %x", a, b, c, d, got, want)
	}
}

func checkChaStart(t *testing.T, key, nonce string, count int) {
	t.Helper()
	want, wantOk := plainChaStart(key, nonce, count)
	if got, ok := impl.ChaStart(key, nonce, count); ok != wantOk || !slices.Equal(got, want) {
		t.Fatalf("ChaStart(%q, %q, %d) = %x, %v; want %x, %v", key, nonce, count, got, ok, want, wantOk)
	}
}

func checkChaBlock(t *testing.T, state []int, want string) {
	t.Helper()
	if got := impl.ChaBlock(state); got != want {
		t.Fatalf("ChaBlock(%v) = %x; want %x", state, got, want)
	}
}

func checkStream(t *testing.T, key, nonce string, count, n int) {
	t.Helper()
	want, wantOk := plainStream(key, nonce, count, n)
	if got, ok := impl.ChaStream(key, nonce, count, n); ok != wantOk || got != want {
		t.Fatalf("ChaStream(%q, %q, %d, %d) = %s, %v; want %s, %v", key, nonce, count, n, brief([]byte(got)), ok, brief([]byte(want)), wantOk)
	}
}

const sunscreen = "Ladies and Gentlemen of the class of '99: If I could offer you only one tip for the future, sunscreen would be it."

// The turn, the block and the stream that RFC 8439 tells.
func TestP24TheStandard(t *testing.T) {
	checkQuarter(t, 0x11111111, 0x01020304, 0x9b8d6f43, 0x01234567, []int{0xea2a92f4, 0xcb1cf8ce, 0x4581472e, 0x5881c4bb})
	checkQuarter(t, 0x516461b1, 0x2a5f714c, 0x53372767, 0x3d631689, []int{0xbdb886dc, 0xcfacafd2, 0xe46bea80, 0xccc07c79})
	key := bytesFrom(0, 32)
	state, ok := impl.ChaStart(key, unHex(t, "000000090000004a00000000"), 1)
	want := []int{0x61707865, 0x3320646e, 0x79622d32, 0x6b206574, 0x03020100, 0x07060504, 0x0b0a0908, 0x0f0e0d0c, 0x13121110, 0x17161514, 0x1b1a1918, 0x1f1e1d1c, 0x00000001, 0x09000000, 0x4a000000, 0x00000000}
	if !ok || !slices.Equal(state, want) {
		t.Fatalf("the start is %x, %v", state, ok)
	}
	checkChaBlock(t, state, unHex(t, "10f1e7e4d13b5915500fdd1fa32071c4c7d1f4c733c068030422aa9ac3d46c4ed2826446079faa0914c2d705d98b02a2b5129cd1de164eb9cbd083e8a2503c4e"))
	nonce := unHex(t, "000000000000004a00000000")
	stream, ok := impl.ChaStream(key, nonce, 1, len(sunscreen))
	sealed := unHex(t, `6e2e359a2568f98041ba0728dd0d6981 e97e7aec1d4360c20a27afccfd9fae0b f91b65c5524733ab8f593dabcd62b357 1639d624e65152ab8f530c359f0861d8
		07ca0dbf500d6a6156a38e088a22b65e 52bc514d16ccf806818ce91ab7793736 5af90bbf74a35be6b40b8eedf2785e42 874d`)
	if got := impl.XorTexts(sunscreen, stream); !ok || got != sealed {
		t.Fatalf("streamed over it is %x; want %x", got, sealed)
	}
	if got := impl.XorTexts(sealed, stream); got != sunscreen {
		t.Fatalf("streamed over twice it is %q", got)
	}
	// Of appendix A.1: all 0, with the counts 0 and 1, and with other bytes.
	zeros, none := strings.Repeat("\x00", 32), strings.Repeat("\x00", 12)
	for _, c := range []struct {
		key, nonce string
		count      int
		want       string
	}{
		{zeros, none, 0, "76b8e0ada0f13d90405d6ae55386bd28bdd219b8a08ded1aa836efcc8b770dc7da41597c5157488d7724e03fb8d84a376a43b8f41518a11cc387b669b2ee6586"},
		{zeros, none, 1, "9f07e7be5551387a98ba977c732d080dcb0f29a048e3656912c6533e32ee7aed29b721769ce64e43d57133b074d839d531ed1f28510afb45ace10a1f4b794d6f"},
		{zeros[1:] + "\x01", none, 1, "3aeb5224ecf849929b9d828db1ced4dd832025e8018b8160b82284f3c949aa5a8eca00bbb4a73bdad192b5c42f73f2fd4e273644c8b36125a64addeb006c13a0"},
		{"\x00\xff" + zeros[2:], none, 2, "72d54dfbf12ec44b362692df94137f328fea8da73990265ec1bbbea1ae9af0ca13b25aa26cb4a648cb9b9d1be65b2c0924a66c54d545ec1b7374f4872e99f096"},
		{zeros, none[1:] + "\x02", 0, "c2c64d378cd536374ae204b9ef933fcd1a8b2288b3dfa49672ab765b54ee27c78a970e0e955c14f3a88e741b97c286f75f8fc299e8148362fa198a39531bed6d"},
	} {
		state, _ := impl.ChaStart(c.key, c.nonce, c.count)
		checkChaBlock(t, state, unHex(t, c.want))
	}
}

func TestP24Turns(t *testing.T) {
	draw := rand.New(rand.NewSource(52))
	edges := []int{0, 1, -1, 2147483647, 2147483648, most32, most32 + 1, most32 + 2, -2147483648, math.MaxInt, math.MinInt, 1 << 40, -1 << 40}
	for _, n := range edges {
		for at := range 4 {
			list := []int{0x11111111, 0x01020304, 0x9b8d6f43, 0x01234567}
			list[at] = n
			checkQuarter(t, list[0], list[1], list[2], list[3], plainQuarter(list[0], list[1], list[2], list[3]))
		}
		checkQuarter(t, n, n, n, n, plainQuarter(n, n, n, n))
	}
	checkQuarter(t, -1, -1, -1, -1, impl.QuarterTurn(most32, most32, most32, most32))
	checkQuarter(t, most32+1, 0, 0, 0, []int{0, 0, 0, 0})
	for range 3000 {
		one := func() int {
			if draw.Intn(5) == 0 {
				return edges[draw.Intn(len(edges))]
			}
			return int(draw.Uint64())
		}
		a, b, c, d := one(), one(), one(), one()
		want := plainQuarter(a, b, c, d)
		checkQuarter(t, a, b, c, d, want)
		if slices.ContainsFunc(want, func(n int) bool { return n < 0 || n > most32 }) {
			t.Fatalf("the plain way tells %v", want)
		}
	}
}

func TestP24Starts(t *testing.T) {
	key, nonce := bytesFrom(0x80, 32), bytesFrom(0xf0, 12)
	for _, count := range []int{0, 1, 255, 256, 2147483648, most32 - 1, most32, most32 + 1, -1, math.MinInt, math.MaxInt} {
		checkChaStart(t, key, nonce, count)
		checkChaStart(t, strings.Repeat("\xff", 32), strings.Repeat("\xff", 12), count)
	}
	for size := range 70 {
		checkChaStart(t, strings.Repeat("k", size), nonce, 1)
		checkChaStart(t, key, strings.Repeat("n", size), 1)
		checkChaStart(t, strings.Repeat("k", size), strings.Repeat("n", size), -1)
	}
	state, _ := impl.ChaStart(key, nonce, 7)
	state[0] = 9
	checkChaStart(t, key, nonce, 7)
}

func TestP24Blocks(t *testing.T) {
	draw := rand.New(rand.NewSource(53))
	for range 300 {
		var state []int
		for range 16 {
			state = append(state, []int{0, 1, most32, 2147483648, draw.Intn(most32 + 1)}[draw.Intn(5)])
		}
		checkChaBlock(t, state, plainChaBlock(state))
		room := append(slices.Clone(state), 77, 77)
		checkChaBlock(t, room[:16], plainChaBlock(state))
		if !slices.Equal(room, append(slices.Clone(state), 77, 77)) {
			t.Fatalf("the state became %v", room)
		}
		for _, wrong := range []int{-1, most32 + 1, math.MinInt, math.MaxInt} {
			bad := slices.Clone(state)
			bad[draw.Intn(16)] = wrong
			checkChaBlock(t, bad, "")
		}
	}
	checkChaBlock(t, make([]int, 16), unHex(t, strings.Repeat("00", 64)))
	for _, size := range []int{0, 1, 15, 17, 32, 1000} {
		checkChaBlock(t, make([]int, size), "")
	}
	checkChaBlock(t, nil, "")
}

// A stream goes on where a block ended, and goes round behind the greatest count.
func TestP24Streams(t *testing.T) {
	key, nonce := bytesFrom(3, 32), bytesFrom(77, 12)
	for _, count := range []int{0, 1, 77, most32 - 1, most32} {
		for _, n := range []int{0, 1, 2, 63, 64, 65, 127, 128, 129, 200, 1000} {
			checkStream(t, key, nonce, count, n)
		}
	}
	for _, count := range []int{0, most32, most32 - 100} {
		for _, n := range []int{9999, 10000, 10001} {
			checkStream(t, key, nonce, count, n)
		}
	}
	whole, _ := impl.ChaStream(key, nonce, most32-1, 320)
	for i, count := range []int{most32 - 1, most32, 0, 1, 2} {
		state, _ := impl.ChaStart(key, nonce, count)
		if got := impl.ChaBlock(state); whole[64*i:64*i+64] != got {
			t.Fatalf("the block at %d is %x; want that of the count %d", i, got, count)
		}
	}
	for _, n := range []int{-1, -64, 10001, 10002, math.MinInt, math.MaxInt, 1 << 32} {
		checkStream(t, key, nonce, 0, n)
	}
	for _, count := range []int{-1, most32 + 1, math.MinInt, math.MaxInt} {
		checkStream(t, key, nonce, count, 10)
		checkStream(t, key, nonce, count, 0)
	}
	for _, size := range []int{0, 11, 12, 13, 31, 32, 33, 64} {
		checkStream(t, strings.Repeat("k", size), nonce, 0, 10)
		checkStream(t, key, strings.Repeat("n", size), 0, 0)
		checkStream(t, key, strings.Repeat("n", size), 0, 10)
	}
}

// What is streamed over twice is as it was.
func TestP24TwiceIsAsItWas(t *testing.T) {
	draw := rand.New(rand.NewSource(54))
	for range 300 {
		text := drawText(draw, draw.Intn(400))
		stream, ok := impl.ChaStream(drawText(draw, 32), drawText(draw, 12), draw.Intn(most32+1), len(text))
		over := impl.XorTexts(text, stream)
		if back := impl.XorTexts(over, stream); !ok || back != text || impl.XorTexts(stream, over) != text {
			t.Fatalf("%x comes back as %x", text, back)
		}
		if len(text) > 20 && over == text {
			t.Fatalf("%x is as it was", text)
		}
	}
	for _, c := range [][2]string{{"", ""}, {"", "abc"}, {"abc", ""}, {"ab", "b"}, {"a", "abc"}, {"\xff\x00", "\x0f\xf0\x55"}, {strings.Repeat("x", 30000), strings.Repeat("y", 20000)}} {
		want := plainXor(c[0], c[1])
		if got := impl.XorTexts(c[0], c[1]); got != want {
			t.Errorf("XorTexts(%s, %s) = %x; want %x", brief(c[0]), brief(c[1]), got, want)
		}
	}
	zeros := strings.Repeat("\x00", 9)
	text := "some text"
	if got := impl.XorTexts(text, zeros); got != text || inside(got, text) {
		t.Errorf("with bytes 0 it is %q, or the argument itself", got)
	}
}
