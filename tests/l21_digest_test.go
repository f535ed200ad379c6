package tests

import (
	"crypto/sha256"
	"encoding/binary"
	"encoding/hex"
	"math"
	"math/big"
	"math/bits"
	"math/rand"
	"slices"
	"strings"
	"testing"

	"loop.example/g00466/impl"
)

func stdDigest(text string) string {
	sum := sha256.Sum256([]byte(text))
	return string(sum[:])
}

// rootFraction has the first 32 bits behind the point of a root of n: the square root, or the cube root.
func rootFraction(n int64, power int) uint32 {
	whole := new(big.Int).Lsh(big.NewInt(n), uint(32*power))
	low, high := big.NewInt(0), new(big.Int).Set(whole)
	for low.Cmp(high) < 0 { // the greatest number whose power is not above it
		middle := new(big.Int).Add(low, high)
		middle.Add(middle, big.NewInt(1)).Rsh(middle, 1)
		if new(big.Int).Exp(middle, big.NewInt(int64(power)), nil).Cmp(whole) <= 0 {
			low = middle
		} else {
			high = middle.Sub(middle, big.NewInt(1))
		}
	}
	return uint32(low.Uint64())
}

func firstPrimes(count int) []int64 {
	var list []int64
	for n := int64(2); len(list) < count; n++ {
		if big.NewInt(n).ProbablyPrime(10) {
			list = append(list, n)
		}
	}
	return list
}

var plainRounds = func() []uint32 {
	var list []uint32
	for _, p := range firstPrimes(64) {
		list = append(list, rootFraction(p, 3))
	}
	return list
}()

// plainShaBlock is as FIPS 180-4 tells it, with all 64 words at once.
func plainShaBlock(state []int, block string) []int {
	right := len(state) == 8 && len(block) == 64
	for _, n := range state {
		right = right && n >= 0 && n <= 4294967295
	}
	if !right {
		return state
	}
	turn := func(x uint32, by int) uint32 { return bits.RotateLeft32(x, -by) }
	var words []uint32
	for t := range 64 {
		if t < 16 {
			words = append(words, binary.BigEndian.Uint32([]byte(block[4*t:])))
			continue
		}
		x, y := words[t-15], words[t-2]
		words = append(words, (turn(y, 17)^turn(y, 19)^y>>10)+words[t-7]+(turn(x, 7)^turn(x, 18)^x>>3)+words[t-16])
	}
	var v [8]uint32
	for i, n := range state {
		v[i] = uint32(n)
	}
	for t := range 64 {
		a, b, c, d, e, f, g, h := v[0], v[1], v[2], v[3], v[4], v[5], v[6], v[7]
		first := h + (turn(e, 6) ^ turn(e, 11) ^ turn(e, 25)) + (e&f ^ (^e)&g) + plainRounds[t] + words[t]
		second := (turn(a, 2) ^ turn(a, 13) ^ turn(a, 22)) + (a&b ^ a&c ^ b&c)
		v = [8]uint32{first + second, a, b, c, d + first, e, f, g}
	}
	var next []int
	for i, n := range state {
		next = append(next, int(uint32(n)+v[i]))
	}
	return next
}

func checkShaBlock(t *testing.T, state []int, block string, want []int) {
	t.Helper()
	if got := impl.ShaBlock(state, block); !slices.Equal(got, want) {
		t.Fatalf("ShaBlock(%v, %q) = %v; want %v", state, block, got, want)
	}
}

func checkDigest(t *testing.T, text string, want string) {
	t.Helper()
	if got := impl.Digest(text); got != want {
		t.Fatalf("Digest(%s) of %d bytes = %x; want %x", brief(text), len(text), got, want)
	}
}

func drawText(draw *rand.Rand, size int) string {
	text := make([]byte, size)
	draw.Read(text)
	return string(text)
}

// unHex is for texts that a standard tells in figures; blanks and line ends between them are left out.
func unHex(t *testing.T, figures string) string {
	t.Helper()
	text, err := hex.DecodeString(strings.Join(strings.Fields(figures), ""))
	if err != nil {
		t.Fatal(err)
	}
	return string(text)
}

func TestP21Constants(t *testing.T) {
	if impl.DigestSize != 32 || impl.BlockSize != 64 {
		t.Errorf("sizes are %d and %d", impl.DigestSize, impl.BlockSize)
	}
}

// What FIPS 180-4 tells, and its examples.
func TestP21DigestsOfTheStandard(t *testing.T) {
	for text, want := range map[string]string{
		"":    "e3b0c442 98fc1c14 9afbf4c8 996fb924 27ae41e4 649b934c a495991b 7852b855",
		"abc": "ba7816bf 8f01cfea 414140de 5dae2223 b00361a3 96177a9c b410ff61 f20015ad",
		"abcdbcdecdefdefgefghfghighijhijkijkljklmklmnlmnomnopnopq":                                                         "248d6a61 d20638b8 e5c02693 0c3e6039 a33ce459 64ff2167 f6ecedd4 19db06c1",
		"abcdefghbcdefghicdefghijdefghijkefghijklfghijklmghijklmnhijklmnoijklmnopjklmnopqklmnopqrlmnopqrsmnopqrstnopqrstu": "cf5b16a7 78af8380 036ce59e 7b049237 0b249b11 e8f07a51 afac4503 7afee9d1",
		strings.Repeat("a", 1000000): "cdc76e5c 9914fb92 81a1c7e2 84d73e67 f1809a48 a497200e 046d39cc c7112cd0",
		"\xbd":                       "68325720 aabd7c82 f30f554b 313d0570 c95accbb 7dc4b5aa e11204c0 8ffe732b",
		strings.Repeat("\x00", 55):   "02779466 cdec1638 11d07881 5c633f21 90141308 1449002f 24aa3e80 f0b88ef7",
		strings.Repeat("\x00", 56):   "d4817aa5 497628e7 c77e6b60 6107042b bba31308 88c5f47a 375e6179 be789fbb",
		strings.Repeat("\x00", 57):   "65a16cb7 861335d5 ace3c607 18b5052e 44660726 da4cd13b b745381b 235a1785",
		strings.Repeat("\x00", 64):   "f5a5fd42 d16a2030 2798ef6e d309979b 43003d23 20d9f0e8 ea9831a9 2759fb4b",
	} {
		figures := strings.ReplaceAll(want, " ", "")
		checkDigest(t, text, unHex(t, want))
		if got := impl.DigestHex(text); got != figures {
			t.Errorf("DigestHex of %d bytes is %s; want %s", len(text), got, figures)
		}
	}
}

// Texts of each length up to some blocks, and long ones: the same as the library's.
func TestP21EachLength(t *testing.T) {
	draw := rand.New(rand.NewSource(45))
	for size := range 330 {
		for _, text := range []string{strings.Repeat("\x00", size), strings.Repeat("\xff", size), strings.Repeat("\x80", size), drawText(draw, size)} {
			checkDigest(t, text, stdDigest(text))
			if figures, _ := impl.Hex(impl.Digest(text)); impl.DigestHex(text) != figures {
				t.Fatalf("DigestHex of %d bytes is %s", size, impl.DigestHex(text))
			}
		}
	}
	for _, size := range []int{4095, 4096, 65535, 65536, 70000, 300001} {
		text := drawText(draw, size)
		checkDigest(t, text, stdDigest(text))
	}
}

func TestP21PadText(t *testing.T) {
	for _, c := range []struct{ size, zeros int }{{0, 55}, {1, 54}, {54, 1}, {55, 0}, {56, 63}, {57, 62}, {63, 56}, {64, 55}, {65, 54}, {119, 0}, {120, 63}, {128, 55}, {10000, 39}} {
		text := strings.Repeat("\xc3", c.size)
		length := binary.BigEndian.AppendUint64(nil, uint64(8*c.size))
		want := text + "\x80" + strings.Repeat("\x00", c.zeros) + string(length)
		if got := impl.PadText(text); got != want || len(got)%64 != 0 {
			t.Errorf("PadText of %d bytes is %x; want %x", c.size, got, want)
		}
	}
	for size := range 300 {
		text := strings.Repeat("x", size)
		got := impl.PadText(text)
		if len(got)%64 != 0 || len(got) < size+9 || len(got) > size+9+63 || got[:size] != text || got[size] != 128 || strings.Trim(got[size+1:len(got)-8], "\x00") != "" {
			t.Fatalf("PadText of %d bytes is %x", size, got)
		}
	}
}

// Block by block from ShaStart on, a digest is made.
func TestP21BlockByBlock(t *testing.T) {
	want := []int{0x6a09e667, 0xbb67ae85, 0x3c6ef372, 0xa54ff53a, 0x510e527f, 0x9b05688c, 0x1f83d9ab, 0x5be0cd19}
	for i, p := range firstPrimes(8) {
		if int(rootFraction(p, 2)) != want[i] {
			t.Fatalf("the root of %d is another one", p)
		}
	}
	if got := impl.ShaStart(); !slices.Equal(got, want) {
		t.Fatalf("ShaStart is %x; want %x", got, want)
	}
	draw := rand.New(rand.NewSource(46))
	for _, size := range []int{0, 1, 3, 55, 56, 63, 64, 65, 119, 120, 128, 500, 5000} {
		text := drawText(draw, size)
		state := impl.ShaStart()
		for padded := impl.PadText(text); padded != ""; padded = padded[64:] {
			next := plainShaBlock(state, padded[:64])
			checkShaBlock(t, state, padded[:64], next)
			state = next
		}
		var told []byte
		for _, n := range state {
			told = binary.BigEndian.AppendUint32(told, uint32(n))
		}
		if string(told) != stdDigest(text) || string(told) != impl.Digest(text) {
			t.Fatalf("block by block %d bytes make %x", size, told)
		}
	}
}

func TestP21BlocksOfAnyState(t *testing.T) {
	draw := rand.New(rand.NewSource(47))
	for range 500 {
		var state []int
		for range 8 {
			state = append(state, []int{0, 1, 4294967295, 2147483648, draw.Intn(1 << 32)}[draw.Intn(5)])
		}
		for _, block := range []string{drawText(draw, 64), strings.Repeat("\xff", 64), strings.Repeat("\x00", 64)} {
			checkShaBlock(t, state, block, plainShaBlock(state, block))
		}
	}
	checkShaBlock(t, make([]int, 8), strings.Repeat("\x00", 64), plainShaBlock(make([]int, 8), strings.Repeat("\x00", 64)))
}

// States and blocks that are none: as it is, in new memory.
func TestP21WrongBlocks(t *testing.T) {
	block := strings.Repeat("b", 64)
	right := impl.ShaStart()
	var states [][]int
	for _, n := range []int{0, 1, 7, 9, 16, 1000} {
		states = append(states, slices.Repeat([]int{5}, n))
	}
	for _, n := range []int{-1, 4294967296, math.MinInt, math.MaxInt, 1<<32 + 5} {
		for at := range 8 {
			state := slices.Clone(right)
			state[at] = n
			states = append(states, state)
		}
	}
	states = append(states, nil)
	for _, state := range states {
		for _, b := range []string{block, "", block + "x"} {
			checkShaBlock(t, state, b, state)
		}
	}
	for _, b := range []string{"", "x", block[:63], block + "x", block + block, strings.Repeat("x", 10000)} {
		checkShaBlock(t, right, b, right)
	}
	for _, state := range append(states, right) {
		room := append(slices.Clone(state), 77, 77, 77)
		for _, b := range []string{block, block[:63]} {
			got := impl.ShaBlock(room[:len(state)], b)
			got = got[:cap(got)]
			for i := range got {
				got[i] = -9
			}
			if !slices.Equal(room, append(slices.Clone(state), 77, 77, 77)) {
				t.Fatalf("the state, or the room behind it, became %v", room)
			}
		}
	}
	start := impl.ShaStart()
	start[0] = 1
	if !slices.Equal(impl.ShaStart(), right) {
		t.Fatalf("ShaStart became %v", impl.ShaStart())
	}
}

func TestP21CutDigest(t *testing.T) {
	for _, text := range []string{"", "abc", strings.Repeat("x", 200), "\xff\x80"} {
		for w := -3; w <= 40; w++ {
			want := ""
			if w >= 1 && w <= 32 {
				want = stdDigest(text)[:w]
			}
			if got := impl.CutDigest(text, w); got != want {
				t.Errorf("CutDigest(%q, %d) = %x; want %x", text, w, got, want)
			}
		}
		for _, w := range []int{math.MinInt, math.MaxInt, 1 << 32, 1<<32 + 5} {
			if got := impl.CutDigest(text, w); got != "" {
				t.Errorf("CutDigest(%q, %d) = %x", text, w, got)
			}
		}
	}
}

// One byte turned makes another digest.
func TestP21TurnedBytes(t *testing.T) {
	text := strings.Repeat("abcdefgh", 20)
	seen := map[string]int{impl.Digest(text): -1}
	for at := range len(text) {
		for _, by := range []byte{1, 128, 255} {
			digest := impl.Digest(withByte(text, at, text[at]^by))
			if before, there := seen[digest]; there {
				t.Fatalf("turned at %d it is as turned at %d", at, before)
			}
			seen[digest] = at
		}
	}
}
