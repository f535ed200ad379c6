package tests

import (
	"crypto/ecdh"
	"math/big"
	"math/rand"
	"strings"
	"testing"

	"loop.example/g00466/impl"
)

func plainClamp(key string) string {
	if len(key) != 32 {
		return ""
	}
	return string([]byte{key[0] &^ 7}) + key[1:31] + string([]byte{key[31]&127 | 64})
}

// plainX25519 is as RFC 7748 tells it, by great numbers.
func plainX25519(key, point string) (string, bool) {
	if len(key) != 32 || len(point) != 32 {
		return "", false
	}
	modulo := func(n *big.Int) *big.Int { return n.Mod(n, fieldModulus) }
	plus := func(a, b *big.Int) *big.Int { return modulo(new(big.Int).Add(a, b)) }
	minus := func(a, b *big.Int) *big.Int { return modulo(new(big.Int).Sub(a, b)) }
	times := func(a, b *big.Int) *big.Int { return modulo(new(big.Int).Mul(a, b)) }
	k := bigOf(plainClamp(key))
	x1 := modulo(new(big.Int).Mod(bigOf(point), powerOf2(255, 0)))
	x2, z2, x3, z3 := big.NewInt(1), big.NewInt(0), x1, big.NewInt(1)
	for bit := 254; bit >= 0; bit-- {
		if k.Bit(bit) == 1 {
			x2, z2, x3, z3 = x3, z3, x2, z2
		}
		aa, bb := times(plus(x2, z2), plus(x2, z2)), times(minus(x2, z2), minus(x2, z2))
		e := minus(aa, bb)
		da, cb := times(minus(x3, z3), plus(x2, z2)), times(plus(x3, z3), minus(x2, z2))
		x3, z3 = times(plus(da, cb), plus(da, cb)), times(x1, times(minus(da, cb), minus(da, cb)))
		x2, z2 = times(aa, bb), times(e, plus(aa, times(big.NewInt(121665), e)))
		if k.Bit(bit) == 1 {
			x2, z2, x3, z3 = x3, z3, x2, z2
		}
	}
	return bytesOf(times(x2, new(big.Int).Exp(z2, powerOf2(255, 21), fieldModulus)), 32), true
}

// checkCurve holds both X25519 and SharedOf against what is wanted; SharedOf is false, too, with bytes 0 alone.
func checkCurve(t *testing.T, key, point, want string, wantOk bool) {
	t.Helper()
	if got, ok := impl.X25519(key, point); got != want || ok != wantOk {
		t.Fatalf("X25519(%x, %x) = %x, %v; want %x, %v", key, point, got, ok, want, wantOk)
	}
	if want == strings.Repeat("\x00", 32) {
		want, wantOk = "", false
	}
	if got, ok := impl.SharedOf(key, point); got != want || ok != wantOk {
		t.Fatalf("SharedOf(%x, %x) = %x, %v; want %x, %v", key, point, got, ok, want, wantOk)
	}
}

func checkCurvePlain(t *testing.T, key, point string) {
	t.Helper()
	want, ok := plainX25519(key, point)
	checkCurve(t, key, point, want, ok)
}

func checkPublic(t *testing.T, key, want string, wantOk bool) {
	t.Helper()
	if got, ok := impl.PublicOf(key); got != want || ok != wantOk {
		t.Fatalf("PublicOf(%x) = %x, %v; want %x, %v", key, got, ok, want, wantOk)
	}
}

func checkClamp(t *testing.T, key, want string) {
	t.Helper()
	got := impl.ClampKey(key)
	if got != want || inside(got, key) {
		t.Fatalf("ClampKey(%x) = %x, or the argument itself; want %x", key, got, want)
	}
}

// What RFC 7748 tells (5.2): two pairs, and what is made of 9 by itself, once and a thousand times.
func TestP28TheStandard(t *testing.T) {
	checkCurve(t, unHex(t, "a546e36bf0527c9d3b16154b82465edd62144c0ac1fc5a18506a2244ba449ac4"), unHex(t, "e6db6867583030db3594c1a424b15f7c726624ec26b3353b10a903a6d0ab1c4c"),
		unHex(t, "c3da55379de9c6908e94ea4df28d084f32eccf03491c71f754b4075577a28552"), true)
	checkCurve(t, unHex(t, "4b66e9d4d1b4673c5ad22691957d6af5c11b6421e0ea01d42ca4169e7918ba0d"), unHex(t, "e5210f12786811d3f4b7959d0538ae2c31dbe7106fc03c3efc4cd549c715a493"),
		unHex(t, "95cbde9476e8907d7aade45cb4b873f88b595a68799fa152e6f8f7647aac7957"), true)
	key, point := impl.BasePoint(), impl.BasePoint()
	for n := range 1000 {
		made, ok := impl.X25519(key, point)
		if !ok || n == 0 && made != unHex(t, "422c8e7a6227d7bca1350b3e2bb7279f7897b87bb6854b783c60e80311ae3079") {
			t.Fatalf("at %d is made %x, %v", n, made, ok)
		}
		key, point = made, key
	}
	if key != unHex(t, "684cf59ba83309552800ef566f2f4d3c1c3887c49360e3875f2eb94d99532c51") {
		t.Fatalf("a thousand times it is %x", key)
	}
}

// What RFC 7748 tells of two who make one (6.1).
func TestP28BothOfTheStandard(t *testing.T) {
	first, second := unHex(t, "77076d0a7318a57d3c16c17251b26645df4c2f87ebc0992ab177fba51db92c2a"), unHex(t, "5dab087e624a8a4b79e17f8b83800ee66f3bb1292618b6fd1c2f8b27ff88e0eb")
	shown, answered := unHex(t, "8520f0098930a754748b7ddcb43ef75a0dbf3a0d26381af4eba4a98eaa9b4e6a"), unHex(t, "de9edb7d7b7dc1b4d35b61c2ece435373f8343c85b78674dadfc7e146f882b4f")
	shared := unHex(t, "4a5d9d5ba4ce2de1728e3bf480350f25e07e21c947d19e3376f09b3c1e161742")
	checkPublic(t, first, shown, true)
	checkPublic(t, second, answered, true)
	checkCurve(t, first, answered, shared, true)
	checkCurve(t, second, shown, shared, true)
}

// Both ends make the same, and another one makes another one; the library makes it, too.
func TestP28BothMakeOne(t *testing.T) {
	draw := rand.New(rand.NewSource(65))
	for range 30 {
		first, second, third := drawText(draw, 32), drawText(draw, 32), drawText(draw, 32)
		shown, ok := impl.PublicOf(first)
		answered, may := impl.PublicOf(second)
		one, isOne := impl.SharedOf(first, answered)
		other, isOther := impl.SharedOf(second, shown)
		if !ok || !may || !isOne || !isOther || one != other || len(one) != 32 {
			t.Fatalf("%x and %x make %x, %v and %x, %v", first, second, one, isOne, other, isOther)
		}
		if another, _ := impl.SharedOf(third, shown); another == one {
			t.Fatalf("%x makes %x, too", third, another)
		}
		key, err := ecdh.X25519().NewPrivateKey([]byte(first))
		if err != nil {
			t.Fatal(err)
		}
		pub, err := ecdh.X25519().NewPublicKey([]byte(answered))
		if err != nil {
			t.Fatal(err)
		}
		shared, err := key.ECDH(pub)
		if err != nil || string(shared) != one || string(key.PublicKey().Bytes()) != shown {
			t.Fatalf("the library makes %x, %v; want %x", shared, err, one)
		}
		checkCurvePlain(t, first, third)
	}
}

func TestP28ClampKey(t *testing.T) {
	draw := rand.New(rand.NewSource(66))
	zeros := strings.Repeat("\x00", 31)
	checkClamp(t, zeros+"\x00", zeros+"\x40")
	checkClamp(t, strings.Repeat("\xff", 32), "\xf8"+strings.Repeat("\xff", 30)+"\x7f")
	checkClamp(t, "\x07"+zeros[1:]+"\x80", zeros+"\x40")
	for n := range 256 {
		key := withByte(drawText(draw, 32), 0, byte(n))
		checkClamp(t, key, plainClamp(key))
		key = withByte(key, 31, byte(n))
		checkClamp(t, key, plainClamp(key))
		if impl.ClampKey(plainClamp(key)) != plainClamp(key) {
			t.Fatalf("twice it is another one: %x", key)
		}
	}
	for size := range 70 {
		if size != 32 {
			checkClamp(t, strings.Repeat("k", size), "")
		}
	}
	checkClamp(t, strings.Repeat("k", 10000), "")
}

// Keys that are alike when they are clamped make the same; any other bit makes another one.
func TestP28KeysAndPoints(t *testing.T) {
	draw := rand.New(rand.NewSource(67))
	zeros, ones := strings.Repeat("\x00", 32), strings.Repeat("\xff", 32)
	key, point := drawText(draw, 32), drawText(draw, 32)
	made, _ := impl.X25519(key, point)
	for _, at := range []int{0, 1, 15, 30, 31} {
		for bit := range 8 {
			turned, _ := impl.X25519(withByte(key, at, key[at]^1<<bit), point)
			isThere := at == 0 && bit >= 3 || at == 31 && bit < 6 || at > 0 && at < 31
			if (turned != made) != isThere {
				t.Fatalf("with bit %d of byte %d of the key turned is made %x", bit, at, turned)
			}
			turned, _ = impl.X25519(key, withByte(point, at, point[at]^1<<bit))
			if (turned != made) != (at < 31 || bit < 7) {
				t.Fatalf("with bit %d of byte %d of the point turned is made %x", bit, at, turned)
			}
		}
	}
	keys := []string{zeros, ones, key, impl.BasePoint()}
	points := []string{zeros, ones, point, impl.BasePoint()}
	for _, n := range aroundFieldModulus() { // the modulus and more, too
		points = append(points, bytesOf(n, 32))
	}
	for _, key := range keys {
		for _, point := range points {
			checkCurvePlain(t, key, point)
		}
	}
	// A point that is the modulus or more is the one that is less by it.
	for n := range 19 {
		less, _ := impl.X25519(key, plainLowest(n, 32))
		for _, more := range []string{bytesOf(powerOf2(255, int64(19-n)), 32), bytesOf(powerOf2(256, int64(19-n)), 32)} {
			if got, _ := impl.X25519(key, more); got != less {
				t.Fatalf("of %x is made %x; want %x", more, got, less)
			}
		}
	}
}

// Points of no order: X25519 makes bytes 0 with any key, and SharedOf refuses them.
func TestP28PointsOfNoOrder(t *testing.T) {
	draw := rand.New(rand.NewSource(68))
	nothing := strings.Repeat("\x00", 32)
	for _, figures := range []string{
		"0000000000000000000000000000000000000000000000000000000000000000",
		"0100000000000000000000000000000000000000000000000000000000000000",
		"e0eb7a7c3b41b8ae1656e3faf19fc46ada098deb9c32b1fd866205165f49b800",
		"5f9c95bca3508c24b1d0b1559c83ef5b04445cc4581c8e86d8224eddd09f1157",
		"ecffffffffffffffffffffffffffffffffffffffffffffffffffffffffffff7f",
		"edffffffffffffffffffffffffffffffffffffffffffffffffffffffffffff7f",
		"eeffffffffffffffffffffffffffffffffffffffffffffffffffffffffffff7f",
	} {
		point := unHex(t, figures)
		for _, pub := range []string{point, withByte(point, 31, point[31]|128)} {
			for _, key := range []string{drawText(draw, 32), nothing, strings.Repeat("\xff", 32)} {
				checkCurve(t, key, pub, nothing, true)
			}
		}
	}
	if got, ok := impl.SharedOf(drawText(draw, 32), plainLowest(2, 32)); !ok || got == nothing {
		t.Errorf("of the point 2 is made %x, %v", got, ok)
	}
}

func TestP28WrongLengths(t *testing.T) {
	draw := rand.New(rand.NewSource(69))
	for _, size := range []int{0, 1, 16, 31, 33, 64, 10000} {
		wrong := drawText(draw, size)
		checkCurve(t, wrong, drawText(draw, 32), "", false)
		checkCurve(t, drawText(draw, 32), wrong, "", false)
		checkCurve(t, wrong, wrong, "", false)
		checkPublic(t, wrong, "", false)
	}
}

func TestP28Publics(t *testing.T) {
	draw := rand.New(rand.NewSource(70))
	if got := impl.BasePoint(); got != "\x09"+strings.Repeat("\x00", 31) {
		t.Fatalf("BasePoint is %x", got)
	}
	for _, key := range []string{strings.Repeat("\x00", 32), strings.Repeat("\xff", 32), drawText(draw, 32), drawText(draw, 32)} {
		want, ok := plainX25519(key, impl.BasePoint())
		checkPublic(t, key, want, ok)
	}
}
