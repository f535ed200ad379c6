package tests

import (
	"math"
	"math/big"
	"math/rand"
	"slices"
	"strings"
	"testing"

	"loop.example/g00466/impl"
)

var fieldModulus = powerOf2(255, 19)

// fieldFor is a number modulo 2 to the 255 less 19.
func fieldFor(n *big.Int) impl.Field {
	text := bytesOf(new(big.Int).Mod(n, fieldModulus), 32)
	var list []int
	for ; text != ""; text = text[2:] {
		list = append(list, int(text[0])+256*int(text[1]))
	}
	return impl.Field{List: list}
}

// bigOfField is the number of a right Field; false of others.
func bigOfField(a impl.Field) (*big.Int, bool) {
	n := new(big.Int)
	for i := len(a.List) - 1; i >= 0; i-- {
		if a.List[i] < 0 || a.List[i] > 65535 {
			return nil, false
		}
		n.Lsh(n, 16).Add(n, big.NewInt(int64(a.List[i])))
	}
	return n, len(a.List) == 16 && n.Cmp(fieldModulus) < 0
}

func checkField(t *testing.T, what string, got, want impl.Field) {
	t.Helper()
	if !slices.Equal(got.List, want.List) {
		t.Fatalf("%s is %v; want %v", what, got, want)
	}
}

// checkFieldOf: the highest bit of 32 bytes is not looked at, and the number goes round at the modulus.
func checkFieldOf(t *testing.T, text string) {
	t.Helper()
	got, ok := impl.FieldOf(text)
	var want impl.Field
	if len(text) == 32 {
		want = fieldFor(new(big.Int).Mod(bigOf(text), powerOf2(255, 0)))
	}
	checkField(t, "FieldOf "+unprintable(text), got, want)
	if ok != (len(text) == 32) || impl.FieldOk(got) != ok {
		t.Fatalf("FieldOf %x is %v, %v", text, got, ok)
	}
}

// checkFields holds sums, differences and products against plain arithmetic; nothing where one is not right.
func checkFields(t *testing.T, a, b impl.Field) {
	t.Helper()
	x, ok := bigOfField(a)
	y, right := bigOfField(b)
	var sum, product, less, more impl.Field
	if ok && right {
		sum, product = fieldFor(new(big.Int).Add(x, y)), fieldFor(new(big.Int).Mul(x, y))
		less, more = fieldFor(new(big.Int).Sub(x, y)), fieldFor(new(big.Int).Sub(y, x))
	}
	for _, c := range [][2]impl.Field{{a, b}, {b, a}} { // in any order
		checkField(t, "a sum", impl.FieldAdd(c[0], c[1]), sum)
		checkField(t, "a product", impl.FieldMul(c[0], c[1]), product)
	}
	checkField(t, "a difference", impl.FieldSub(a, b), less)
	checkField(t, "a difference the other way", impl.FieldSub(b, a), more)
}

// checkOneField holds what is asked of one number against plain arithmetic.
func checkOneField(t *testing.T, a impl.Field) {
	t.Helper()
	n, ok := bigOfField(a)
	text, inverse := "", impl.Field{}
	if ok {
		text = bytesOf(n, 32)
		inverse = fieldFor(new(big.Int).Exp(n, powerOf2(255, 21), fieldModulus))
	}
	if got := impl.FieldText(a); got != text || impl.FieldOk(a) != ok {
		t.Fatalf("FieldText(%v) = %x, and it is right: %v; want %x, %v", a, got, impl.FieldOk(a), text, ok)
	}
	checkField(t, "FieldInv", impl.FieldInv(a), inverse)
	if !ok {
		return
	}
	back, isBack := impl.FieldOf(text)
	checkField(t, "what comes back", back, a)
	want := fieldFor(big.NewInt(int64(n.Sign()))) // 0 of 0, else 1
	checkField(t, "it, and what makes 1 with it,", impl.FieldMul(a, inverse), want)
	checkField(t, "what makes 1 with it, and it,", impl.FieldMul(inverse, a), want)
	if !isBack {
		t.Fatalf("%x is refused", text)
	}
}

// aroundFieldModulus has numbers just below, at and above the modulus, and where bits end.
func aroundFieldModulus() []*big.Int {
	var list []*big.Int
	for _, less := range []int64{0, 1, 2, 17, 18, 19, 20, 21, 37, 38, 39, -1, -18, -19, -20} {
		list = append(list, powerOf2(255, less), powerOf2(240, less), powerOf2(16, less))
		if less >= 0 {
			list = append(list, big.NewInt(less))
		}
		if less > 0 {
			list = append(list, powerOf2(256, less))
		}
	}
	return list
}

func TestP27FieldOf(t *testing.T) {
	for _, n := range aroundFieldModulus() {
		text := bytesOf(n, 32)
		checkFieldOf(t, text)
		checkFieldOf(t, withByte(text, 31, text[31]^128))
	}
	draw := rand.New(rand.NewSource(62))
	for range 500 {
		checkFieldOf(t, drawText(draw, 32))
	}
	for size := range 70 {
		for _, text := range []string{strings.Repeat("\xff", size), strings.Repeat("\x00", size), drawText(draw, size)} {
			checkFieldOf(t, text)
		}
	}
	checkFieldOf(t, strings.Repeat("x", 10000))
}

// Told by hand: 1, 2 to the 255 less 20 (the greatest one), less 19 (which is 0), and all bits, with the highest one and without.
func TestP27FieldOfByHand(t *testing.T) {
	high, low := slices.Repeat([]int{65535}, 14), make([]int, 15)
	for text, want := range map[string][]int{
		strings.Repeat("\x00", 32):                       make([]int, 16),
		"\x01" + strings.Repeat("\x00", 31):              append([]int{1}, low...),
		strings.Repeat("\x00", 31) + "\x80":              make([]int, 16),
		"\x02\x01" + strings.Repeat("\x00", 30):          append([]int{258}, low...),
		strings.Repeat("\x00", 30) + "\x02\x01":          append(make([]int, 15), 258),
		"\xec" + strings.Repeat("\xff", 30) + "\x7f":     slices.Concat([]int{65516}, high, []int{32767}),
		"\xec" + strings.Repeat("\xff", 30) + "\xff":     slices.Concat([]int{65516}, high, []int{32767}),
		"\xed" + strings.Repeat("\xff", 30) + "\x7f":     make([]int, 16),
		"\xee" + strings.Repeat("\xff", 30) + "\xff":     append([]int{1}, low...),
		strings.Repeat("\xff", 31) + "\x7f":              append([]int{18}, low...),
		strings.Repeat("\xff", 32):                       append([]int{18}, low...),
		"\xec\xfe" + strings.Repeat("\xff", 29) + "\x7f": slices.Concat([]int{65260}, high, []int{32767}),
	} {
		got, ok := impl.FieldOf(text)
		if !ok || !slices.Equal(got.List, want) || !impl.FieldOk(got) {
			t.Errorf("FieldOf %x is %v, %v; want %v", text, got, ok, want)
		}
	}
}

// wrongFields are lists of other lengths, with numbers that are none, or of the modulus and more.
func wrongFields() []impl.Field {
	var all []impl.Field
	of := func(list []int) { all = append(all, impl.Field{List: list}) }
	for _, size := range []int{0, 1, 5, 15, 17, 32, 1000} {
		of(make([]int, size))
	}
	of(nil)
	for at := range 16 {
		for _, n := range []int{-1, 65536, math.MinInt, math.MaxInt, 1 << 32} {
			list := fromTo(1, 16)
			list[at] = n
			of(list)
		}
	}
	for n := 65536 - 19; n <= 65535; n++ { // the modulus, and the eighteen above it
		of(slices.Concat([]int{n}, slices.Repeat([]int{65535}, 14), []int{32767}))
	}
	of(append(make([]int, 15), 32768))
	of(slices.Repeat([]int{65535}, 16))
	of(append(fromTo(1, 15), 65535))
	of(append(fromTo(1, 16), 0))
	return all
}

func rightFields(draw *rand.Rand) []impl.Field {
	var all []impl.Field
	for _, n := range aroundFieldModulus() {
		all = append(all, fieldFor(n))
	}
	for range 30 {
		all = append(all, fieldFor(bigOf(drawText(draw, 32))))
	}
	high := slices.Repeat([]int{65535}, 16)
	with := func(at, n int) impl.Field {
		list := slices.Clone(high)
		list[15] = 32767
		list[at] = n
		return impl.Field{List: list}
	}
	return append(all, with(0, 65516), with(0, 0), with(1, 65534), with(8, 0), with(15, 32766), with(15, 0))
}

func TestP27OneNumber(t *testing.T) {
	draw := rand.New(rand.NewSource(63))
	for _, a := range rightFields(draw) {
		if _, ok := bigOfField(a); !ok {
			t.Fatalf("%v is not right", a)
		}
		checkOneField(t, a)
	}
	for _, a := range wrongFields() {
		if _, ok := bigOfField(a); ok {
			t.Fatalf("%v is right", a)
		}
		checkOneField(t, a)
	}
}

// Numbers of the curve are added and multiplied in any order.
func TestP27SumsAndProducts(t *testing.T) {
	draw := rand.New(rand.NewSource(64))
	right, wrong := rightFields(draw), wrongFields()
	for _, a := range right {
		for _, b := range right {
			checkFields(t, a, b)
		}
		for _, b := range wrong {
			checkFields(t, a, b)
		}
	}
	for _, a := range wrong {
		checkFields(t, a, a)
		checkFields(t, a, wrong[draw.Intn(len(wrong))])
	}
	// Three of them, in any order.
	for range 300 {
		a, b, c := right[draw.Intn(len(right))], right[draw.Intn(len(right))], right[draw.Intn(len(right))]
		checkField(t, "a product of three", impl.FieldMul(impl.FieldMul(a, b), c), impl.FieldMul(a, impl.FieldMul(c, b)))
		checkField(t, "a product of a sum", impl.FieldMul(impl.FieldAdd(a, b), c), impl.FieldAdd(impl.FieldMul(a, c), impl.FieldMul(c, b)))
		checkField(t, "a sum less one of both", impl.FieldSub(impl.FieldAdd(a, b), b), a)
		checkField(t, "a difference and the other one", impl.FieldAdd(impl.FieldSub(a, b), b), a)
	}
}

// Told by hand: a difference below 0 goes round, and so do a sum and a product at the modulus.
func TestP27GoesRoundAtTheModulus(t *testing.T) {
	of := func(n int64) impl.Field { return fieldFor(big.NewInt(n)) }
	greatest := impl.Field{List: slices.Concat([]int{65516}, slices.Repeat([]int{65535}, 14), []int{32767})}
	half := fieldFor(powerOf2(254, 9)) // twice this is 2 to the 255 less 18
	checkField(t, "0 less 1", impl.FieldSub(of(0), of(1)), greatest)
	checkField(t, "3 less 5", impl.FieldSub(of(3), of(5)), impl.FieldSub(greatest, of(1)))
	checkField(t, "the greatest one and 1", impl.FieldAdd(greatest, of(1)), of(0))
	checkField(t, "the greatest one twice", impl.FieldAdd(greatest, greatest), impl.FieldSub(greatest, of(1)))
	checkField(t, "the greatest one by itself", impl.FieldMul(greatest, greatest), of(1))
	checkField(t, "what makes 1 with the greatest one", impl.FieldInv(greatest), greatest)
	checkField(t, "a half twice", impl.FieldAdd(half, half), of(1))
	checkField(t, "a half by 2", impl.FieldMul(half, of(2)), of(1))
	checkField(t, "what makes 1 with 2", impl.FieldInv(of(2)), half)
	checkField(t, "what makes 1 with 1", impl.FieldInv(of(1)), of(1))
	checkField(t, "what makes 1 with 0", impl.FieldInv(of(0)), of(0))
	checkField(t, "2 to the 128 by itself", impl.FieldMul(fieldFor(powerOf2(128, 0)), fieldFor(powerOf2(128, 0))), of(38))
}

func TestP27AnswersAreNewMemory(t *testing.T) {
	room := append(fromTo(1, 16), 77, 77)
	a := impl.Field{List: room[:16]}
	zero, _ := impl.FieldOf(strings.Repeat("\x00", 32))
	one, _ := impl.FieldOf("\x01" + strings.Repeat("\x00", 31))
	for range 2 {
		for _, got := range []impl.Field{impl.FieldAdd(a, a), impl.FieldAdd(a, zero), impl.FieldAdd(zero, a), impl.FieldSub(a, zero), impl.FieldMul(a, a), impl.FieldMul(a, one), impl.FieldMul(one, a), impl.FieldInv(a), impl.FieldInv(one)} {
			list := got.List[:cap(got.List)]
			for i := range list {
				list[i] = -9
			}
		}
		impl.FieldText(a)
		impl.FieldOk(a)
		if !slices.Equal(room, append(fromTo(1, 16), 77, 77)) || !slices.Equal(one.List, append([]int{1}, make([]int, 15)...)) {
			t.Fatalf("an argument became %v, or %v", room, one)
		}
	}
}
