package tests

import (
	"math"
	"math/big"
	"math/rand"
	"slices"
	"strings"
	"testing"

	"loop.example/g00466/impl"
)

const mostLimb = 67108863

// powerOf2 less n.
func powerOf2(power uint, less int64) *big.Int {
	return new(big.Int).Sub(new(big.Int).Lsh(big.NewInt(1), power), big.NewInt(less))
}

var polyModulus = powerOf2(130, 5)

// bigOf is the number of bytes, the lowest first.
func bigOf(text string) *big.Int {
	bytes := []byte(text)
	slices.Reverse(bytes)
	return new(big.Int).SetBytes(bytes)
}

// bytesOf has the lowest bytes of a number, the lowest first.
func bytesOf(n *big.Int, count int) string {
	bytes := new(big.Int).Mod(n, powerOf2(uint(8*count), 0)).FillBytes(make([]byte, count))
	slices.Reverse(bytes)
	return string(bytes)
}

// limbsFor is a number modulo 2 to the 130 less 5.
func limbsFor(n *big.Int) impl.Limbs {
	n = new(big.Int).Mod(n, polyModulus)
	var list []int
	for range 5 {
		list = append(list, int(new(big.Int).Mod(n, powerOf2(26, 0)).Int64()))
		n.Rsh(n, 26)
	}
	return impl.Limbs{List: list}
}

// bigOfLimbs is the number of right Limbs; false of others.
func bigOfLimbs(a impl.Limbs) (*big.Int, bool) {
	n := new(big.Int)
	for i := len(a.List) - 1; i >= 0; i-- {
		if a.List[i] < 0 || a.List[i] > mostLimb {
			return nil, false
		}
		n.Lsh(n, 26).Add(n, big.NewInt(int64(a.List[i])))
	}
	return n, len(a.List) == 5 && n.Cmp(polyModulus) < 0
}

func plainPoly(key, text string) (string, bool) {
	if len(key) != 32 {
		return "", false
	}
	mask, _ := new(big.Int).SetString("0ffffffc0ffffffc0ffffffc0fffffff", 16)
	r := new(big.Int).And(bigOf(key[:16]), mask)
	sum := new(big.Int)
	for text != "" {
		size := min(16, len(text))
		sum.Add(sum, bigOf(text[:size]+"\x01")).Mul(sum, r).Mod(sum, polyModulus)
		text = text[size:]
	}
	return bytesOf(sum.Add(sum, bigOf(key[16:])), 16), true
}

func checkLimbs(t *testing.T, what string, got, want impl.Limbs) {
	t.Helper()
	if !slices.Equal(got.List, want.List) {
		t.Fatalf("%s is %v; want %v", what, got, want)
	}
}

func checkLimbsOf(t *testing.T, text string) {
	t.Helper()
	got, ok := impl.LimbsOf(text)
	want := limbsFor(bigOf(text))
	if len(text) > 17 {
		want = impl.Limbs{}
	}
	checkLimbs(t, "LimbsOf "+unprintable(text), got, want)
	if ok != (len(text) <= 17) || impl.LimbsOk(got) != ok {
		t.Fatalf("LimbsOf %x is %v, %v", text, got, ok)
	}
}

func unprintable(text string) string {
	figures, _ := impl.Hex(text)
	return figures
}

// checkBoth holds sums and products against plain arithmetic; nothing where one is not right.
func checkBoth(t *testing.T, a, b impl.Limbs) {
	t.Helper()
	x, ok := bigOfLimbs(a)
	y, right := bigOfLimbs(b)
	var sum, product impl.Limbs
	if ok && right {
		sum, product = limbsFor(new(big.Int).Add(x, y)), limbsFor(new(big.Int).Mul(x, y))
	}
	for _, c := range [][2]impl.Limbs{{a, b}, {b, a}} { // in any order
		checkLimbs(t, "a sum", impl.AddLimbs(c[0], c[1]), sum)
		checkLimbs(t, "a product", impl.MulLimbs(c[0], c[1]), product)
	}
}

func checkLimbsText(t *testing.T, a impl.Limbs) {
	t.Helper()
	n, ok := bigOfLimbs(a)
	want := ""
	if ok {
		want = bytesOf(n, 16)
	}
	if got := impl.LimbsText(a); got != want || impl.LimbsOk(a) != ok {
		t.Fatalf("LimbsText(%v) = %x, and it is right: %v; want %x, %v", a, got, impl.LimbsOk(a), want, ok)
	}
}

func checkPoly(t *testing.T, key, text, want string, wantOk bool) {
	t.Helper()
	if got, ok := impl.Poly1305(key, text); got != want || ok != wantOk {
		t.Fatalf("Poly1305(%x, %s of %d bytes) = %x, %v; want %x, %v", key, brief(text), len(text), got, ok, want, wantOk)
	}
}

func checkPolyPlain(t *testing.T, key, text string) {
	t.Helper()
	want, ok := plainPoly(key, text)
	checkPoly(t, key, text, want, ok)
}

const ietf = "Any submission to the IETF intended by the Contributor for publication as all or part of an IETF Internet-Draft or RFC and any statement made within the context of an IETF activity is considered an \"IETF Contribution\". Such statements include oral statements in IETF sessions, as well as written and electronic communications made at any time or place, which are addressed to"

const jabberwocky = "'Twas brillig, and the slithy toves\nDid gyre and gimble in the wabe:\nAll mimsy were the borogoves,\nAnd the mome raths outgrabe."

// The tag that RFC 8439 tells (2.5.2), and those of its appendix A.3.
func TestP25TagsOfTheStandard(t *testing.T) {
	zeros, ones := strings.Repeat("00", 16), strings.Repeat("ff", 16)
	low := func(first string) string { return first + strings.Repeat("00", 16-len(first)/2) }
	text := func(s string) string {
		figures, _ := impl.Hex(s)
		return figures
	}
	for _, c := range []struct{ r, s, text, want string }{
		{"85d6be7857556d337f4452fe42d506a8", "0103808afb0db2fd4abff6af4149f51b", text("Cryptographic Forum Research Group"), "a8061dc1305136c6c22b8baf0c0127a9"},
		{zeros, zeros, strings.Repeat("00", 64), zeros},
		{zeros, "36e5f6b5c5e06070f0efca96227a863e", text(ietf), "36e5f6b5c5e06070f0efca96227a863e"},
		{"36e5f6b5c5e06070f0efca96227a863e", zeros, text(ietf), "f3477e7cd95417af89a6b8794c310cf0"},
		{"1c9240a5eb55d38af333888604f6b5f0", "473917c1402b80099dca5cbc207075c0", text(jabberwocky), "4541669a7eaaee61e708dc7cbcc5eb62"},
		{low("02"), zeros, ones, low("03")},
		{low("02"), ones, low("02"), low("03")},
		{low("01"), zeros, ones + "f0" + ones[2:] + low("11"), low("05")},
		{low("01"), zeros, ones + "fb" + strings.Repeat("fe", 15) + strings.Repeat("01", 16), zeros},
		{low("02"), zeros, "fd" + ones[2:], "fa" + ones[2:]},
		{low("010000000000000004"), zeros, low("e33594d7505e43b9") + low("3394d7505e4379cd01") + zeros + low("01"), low("140000000000000055")},
		{low("010000000000000004"), zeros, low("e33594d7505e43b9") + low("3394d7505e4379cd01") + zeros, low("13")},
	} {
		checkPoly(t, unHex(t, c.r+c.s), unHex(t, c.text), unHex(t, c.want), true)
		checkPolyPlain(t, unHex(t, c.r+c.s), unHex(t, c.text))
	}
}

// Numbers around the modulus, and the greatest ones.
func aroundModulus() []*big.Int {
	var list []*big.Int
	for _, less := range []int64{0, 1, 2, 3, 4, 5, 6, 7, 10, -1, -5, -6, 1 << 26} {
		list = append(list, powerOf2(130, less), powerOf2(128, less), powerOf2(104, less))
		if less >= 0 {
			list = append(list, big.NewInt(less))
		}
		if less > 0 {
			list = append(list, powerOf2(136, less))
		}
	}
	return list
}

func TestP25LimbsOf(t *testing.T) {
	for _, n := range aroundModulus() {
		checkLimbsOf(t, bytesOf(n, 17))
		for size := range 17 {
			checkLimbsOf(t, bytesOf(n, size))
		}
	}
	draw := rand.New(rand.NewSource(55))
	for size := range 40 {
		for _, text := range []string{strings.Repeat("\xff", size), strings.Repeat("\x00", size), drawText(draw, size), drawText(draw, size)} {
			checkLimbsOf(t, text)
		}
	}
	checkLimbsOf(t, strings.Repeat("x", 10000))
	for text, want := range map[string][]int{"": {0, 0, 0, 0, 0}, "\x02": {2, 0, 0, 0, 0}, "\xff\xff\xff\xff": {mostLimb, 63, 0, 0, 0}, bytesOf(polyModulus, 17): {0, 0, 0, 0, 0}, bytesOf(powerOf2(130, 0), 17): {5, 0, 0, 0, 0}, bytesOf(powerOf2(130, 6), 17): {mostLimb - 5, mostLimb, mostLimb, mostLimb, mostLimb}, strings.Repeat("\xff", 17): {319, 0, 0, 0, 0}} {
		got, ok := impl.LimbsOf(text)
		if !ok || !slices.Equal(got.List, want) {
			t.Errorf("LimbsOf %x is %v, %v; want %v", text, got, ok, want)
		}
	}
}

// wrongLimbs are lists of other lengths, with numbers that are none, or of the modulus and more.
func wrongLimbs() []impl.Limbs {
	var all []impl.Limbs
	of := func(list ...int) { all = append(all, impl.Limbs{List: list}) }
	of()
	of(1)
	of(1, 2, 3, 4)
	of(1, 2, 3, 4, 5, 6)
	of(1, 2, 3, 4, 5, 0)
	of(make([]int, 1000)...)
	for at := range 5 {
		for _, n := range []int{-1, mostLimb + 1, math.MinInt, math.MaxInt, 1 << 32} {
			list := []int{1, 2, 3, 4, 5}
			list[at] = n
			of(list...)
		}
	}
	for n := mostLimb - 4; n <= mostLimb; n++ { // the modulus, and the four above it
		of(n, mostLimb, mostLimb, mostLimb, mostLimb)
	}
	return all
}

func rightLimbs(draw *rand.Rand) []impl.Limbs {
	var all []impl.Limbs
	for _, n := range aroundModulus() {
		all = append(all, limbsFor(n))
	}
	for range 30 {
		all = append(all, limbsFor(bigOf(drawText(draw, 17))))
	}
	all = append(all, impl.Limbs{List: []int{mostLimb - 5, mostLimb, mostLimb, mostLimb, mostLimb}}, impl.Limbs{List: []int{mostLimb, mostLimb - 1, mostLimb, mostLimb, mostLimb}}, impl.Limbs{List: []int{mostLimb, mostLimb, mostLimb, mostLimb, mostLimb - 1}}, impl.Limbs{List: []int{0, 0, 0, 0, mostLimb}})
	return all
}

// Sums and products go round at 2 to the 130 less 5, in any order.
func TestP25SumsAndProducts(t *testing.T) {
	draw := rand.New(rand.NewSource(56))
	right, wrong := rightLimbs(draw), wrongLimbs()
	for _, a := range right {
		if _, ok := bigOfLimbs(a); !ok {
			t.Fatalf("%v is not right", a)
		}
		checkLimbsText(t, a)
		for _, b := range right {
			checkBoth(t, a, b)
		}
		for _, b := range wrong {
			checkBoth(t, a, b)
		}
	}
	for _, a := range wrong {
		if _, ok := bigOfLimbs(a); ok {
			t.Fatalf("%v is right", a)
		}
		checkLimbsText(t, a)
		for _, b := range wrong {
			checkBoth(t, a, b)
		}
	}
	// Three of them, in any order.
	for range 300 {
		a, b, c := right[draw.Intn(len(right))], right[draw.Intn(len(right))], right[draw.Intn(len(right))]
		checkLimbs(t, "a product of three", impl.MulLimbs(impl.MulLimbs(a, b), c), impl.MulLimbs(a, impl.MulLimbs(c, b)))
		checkLimbs(t, "a product of a sum", impl.MulLimbs(impl.AddLimbs(a, b), c), impl.AddLimbs(impl.MulLimbs(a, c), impl.MulLimbs(c, b)))
	}
}

func TestP25Keys(t *testing.T) {
	draw := rand.New(rand.NewSource(57))
	for size := range 70 {
		checkPolyPlain(t, strings.Repeat("k", size), "text")
		checkPolyPlain(t, strings.Repeat("\xff", size), "")
	}
	for _, size := range []int{0, 31, 33, 64} {
		checkPoly(t, strings.Repeat("k", size), "text", "", false)
	}
	// What of r is never there does nothing; each other bit does.
	key, text := drawText(draw, 32), "some text of more than a block"
	tag, _ := impl.Poly1305(key, text)
	mask := "\xff\xff\xff\x0f\xfc\xff\xff\x0f\xfc\xff\xff\x0f\xfc\xff\xff\x0f"
	for at := range 32 {
		for bit := range 8 {
			turned := withByte(key, at, key[at]^1<<bit)
			checkPolyPlain(t, turned, text)
			isThere := at >= 16 || mask[at]>>bit&1 == 1
			if got, _ := impl.Poly1305(turned, text); (got != tag) != isThere {
				t.Fatalf("with bit %d of byte %d turned the tag is %x", bit, at, got)
			}
		}
	}
}

func TestP25Texts(t *testing.T) {
	draw := rand.New(rand.NewSource(58))
	keys := []string{strings.Repeat("\xff", 32), strings.Repeat("\x00", 32), drawText(draw, 32), drawText(draw, 32), "\x02" + strings.Repeat("\x00", 15) + strings.Repeat("\xff", 16)}
	for size := range 100 {
		for _, key := range keys {
			for _, text := range []string{strings.Repeat("\xff", size), strings.Repeat("\x00", size), drawText(draw, size)} {
				checkPolyPlain(t, key, text)
			}
		}
	}
	for _, size := range []int{1000, 5000, 5016, 20001} {
		checkPolyPlain(t, keys[2], drawText(draw, size))
		checkPolyPlain(t, keys[0], strings.Repeat("\xff", size))
	}
	// Bytes 0 at the end make another text.
	for _, text := range []string{"", "a", strings.Repeat("a", 15), strings.Repeat("a", 16)} {
		one, _ := impl.Poly1305(keys[3], text)
		if other, _ := impl.Poly1305(keys[3], text+"\x00"); one == other {
			t.Errorf("with a byte 0 more the tag of %q stays", text)
		}
	}
	// The end and s go round at 2 to the 128.
	if got, _ := impl.Poly1305("\x01"+strings.Repeat("\x00", 15)+strings.Repeat("\xff", 16), "\x05"); got != "\x04\x01"+strings.Repeat("\x00", 14) {
		t.Errorf("the tag is %x", got)
	}
}

func TestP25AnswersAreNewMemory(t *testing.T) {
	room := []int{1, 2, 3, 4, 5, 77, 77}
	a := impl.Limbs{List: room[:5]}
	zero, _ := impl.LimbsOf("")
	one, _ := impl.LimbsOf("\x01")
	for range 2 {
		for _, got := range []impl.Limbs{impl.AddLimbs(a, a), impl.AddLimbs(a, zero), impl.AddLimbs(zero, a), impl.MulLimbs(a, a), impl.MulLimbs(a, one), impl.MulLimbs(one, a)} {
			list := got.List[:cap(got.List)]
			for i := range list {
				list[i] = -9
			}
		}
		impl.LimbsText(a)
		impl.LimbsOk(a)
		if !slices.Equal(room, []int{1, 2, 3, 4, 5, 77, 77}) {
			t.Fatalf("an argument became %v", room)
		}
	}
}
