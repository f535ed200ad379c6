package tests

import (
	"math/rand"
	"slices"
	"strings"
	"testing"

	"loop.example/g00466/impl"
)

const startOfSums = 4294967295

// plainSum takes the eight steps of each byte one by one, as the chapter tells them.
func plainSum(sum uint32, text string) uint32 {
	for i := range len(text) {
		sum ^= uint32(text[i])
		for range 8 {
			odd := sum%2 == 1
			sum /= 2
			if odd {
				sum ^= 3558460437
			}
		}
	}
	return sum
}

func plainSealed(text string) string {
	sum := plainSum(startOfSums, text)
	return text + string([]byte{byte(sum >> 24), byte(sum >> 16 & 255), byte(sum >> 8 & 255), byte(sum & 255)})
}

// withByte is the text with another byte at a place.
func withByte(text string, at int, b byte) string {
	return text[:at] + string([]byte{b}) + text[at+1:]
}

func mustSeal(t *testing.T, text string) string {
	t.Helper()
	s, ok := impl.Sealed(text)
	if !ok {
		t.Fatalf("Sealed of %d bytes is refused", len(text))
	}
	return s
}

func checkSumMore(t *testing.T, sum uint32, text string, want uint32) {
	t.Helper()
	if got := impl.SumMore(sum, text); got != want {
		t.Errorf("SumMore(%d, %.40q of %d bytes) = %d; want %d", sum, text, len(text), got, want)
	}
}

func checkUnsealed(t *testing.T, text string, want string, wantOk bool) {
	t.Helper()
	s, ok := impl.Unsealed(text)
	if s != want || ok != wantOk {
		t.Errorf("Unsealed(%.40q of %d bytes) = %.40q of %d bytes, %v; want %.40q of %d bytes, %v", text, len(text), s, len(s), ok, want, len(want), wantOk)
	}
}

var sumTexts = []string{
	"", "\x00", "\x01", "\x80", "\xff", "a", "abc", "ab\x00", "\x00ab", "123456789",
	"\x00\x00\x00\x00", "\xff\xff\xff\xff", "tunnel", allBytes(), textOf(300),
}

// The sums are worked out apart from the program. (2026809993 is what is known of the digits 1 to 9 for this polynomial, turned over at the end.)
func TestP2SumsAsWorkedOut(t *testing.T) {
	for _, c := range []struct {
		text                     string
		ofNone, ofOne, ofStarted uint32
	}{
		{"", 0, 1, 4294967295},
		{"\x00", 0, 735957071, 2175125468},
		{"\x01", 735957071, 0, 2859997075},
		{"\x80", 3558460437, 4291042394, 1438387145},
		{"\xff", 2170173475, 2861033580, 16777215},
		{"a", 517710666, 889615109, 2675860630},
		{"abc", 157603473, 1387080586, 2815232641},
		{"123456789", 2518010058, 4272499752, 2026809993},
		{"\x00\x00\x00\x00", 0, 3479769074, 1160185169},
		{"\xff\xff\xff\xff", 1160185169, 2320370339, 0},
		{allBytes(), 368623690, 3840643015, 2660958145},
	} {
		checkSumMore(t, 0, c.text, c.ofNone)
		checkSumMore(t, 1, c.text, c.ofOne)
		checkSumMore(t, startOfSums, c.text, c.ofStarted)
		if got := impl.SumOf(c.text); got != c.ofStarted {
			t.Errorf("SumOf(%.40q of %d bytes) = %d; want %d", c.text, len(c.text), got, c.ofStarted)
		}
	}
}

func TestP2SumsStepByStep(t *testing.T) {
	sums := []uint32{0, 1, 2, 15, 16, 255, 256, 1 << 31, 1<<31 - 1, 3558460437, startOfSums - 1, startOfSums}
	for bit := range 32 {
		sums = append(sums, 1<<bit)
	}
	for _, sum := range sums {
		checkSumMore(t, sum, "", sum)
		for b := range 256 {
			s := string([]byte{byte(b)})
			checkSumMore(t, sum, s, plainSum(sum, s))
		}
		for _, text := range sumTexts {
			checkSumMore(t, sum, text, plainSum(sum, text))
		}
	}
	draw := rand.New(rand.NewSource(3))
	for range 3000 {
		text := make([]byte, draw.Intn(40))
		draw.Read(text)
		sum := draw.Uint32()
		checkSumMore(t, sum, string(text), plainSum(sum, string(text)))
	}
}

// Sums have no limit: a text may be longer than one that can be sealed.
func TestP2SumsOfLongTexts(t *testing.T) {
	for _, n := range []int{impl.MaxText, impl.MaxText + 1, 3 * impl.MaxText} {
		text := textOf(n)
		checkSumMore(t, 0, text, plainSum(0, text))
		if got, want := impl.SumOf(text), plainSum(startOfSums, text); got != want {
			t.Errorf("SumOf %d bytes = %d; want %d", n, got, want)
		}
	}
}

func TestP2SumMoreGoesOn(t *testing.T) {
	for _, text := range sumTexts {
		whole := impl.SumOf(text)
		for cut := range len(text) + 1 {
			if got := impl.SumMore(impl.SumOf(text[:cut]), text[cut:]); got != whole {
				t.Errorf("SumMore from %d on over %.40q = %d; SumOf is %d", cut, text, got, whole)
			}
			for _, sum := range []uint32{0, 7, startOfSums} {
				if got, want := impl.SumMore(impl.SumMore(sum, text[:cut]), text[cut:]), impl.SumMore(sum, text); got != want {
					t.Errorf("SumMore of %d over %.40q, cut at %d = %d; whole %d", sum, text, cut, got, want)
				}
			}
		}
		sum := uint32(startOfSums)
		for i := range len(text) {
			sum = impl.SumMore(sum, text[i:i+1])
		}
		if sum != whole {
			t.Errorf("byte by byte over %.40q = %d; SumOf is %d", text, sum, whole)
		}
	}
}

func TestP2SealedWrites(t *testing.T) {
	for _, c := range []struct{ text, want string }{
		{"", "\xff\xff\xff\xff"},
		{"\x00", "\x00\x81\xa5\xc7\xdc"},
		{"abc", "abc\xa7\xcd\x0a\x81"},
		{"123456789", "123456789\x78\xce\xaa\x89"},
		{"\xff\xff\xff\xff", "\xff\xff\xff\xff\x00\x00\x00\x00"},
	} {
		if s, ok := impl.Sealed(c.text); s != c.want || !ok {
			t.Errorf("Sealed(%q) = %q, %v; want %q, true", c.text, s, ok, c.want)
		}
	}
}

func TestP2SealedIsUnsealed(t *testing.T) {
	texts := slices.Clone(sumTexts)
	for _, n := range []int{1, 3, 4, 5, 1000, impl.MaxText - 4, impl.MaxText - 1, impl.MaxText} {
		texts = append(texts, textOf(n))
	}
	for _, text := range texts {
		s, ok := impl.Sealed(text)
		if want := plainSealed(text); s != want || !ok {
			t.Errorf("Sealed(%.40q of %d bytes) = %d bytes, %v; want %d, true", text, len(text), len(s), ok, len(want))
		}
		checkUnsealed(t, s, text, true)
	}
	twice := mustSeal(t, mustSeal(t, "abc"))
	checkUnsealed(t, twice, "abc\xa7\xcd\x0a\x81", true)
}

func TestP2SealedLimit(t *testing.T) {
	checkUnsealed(t, plainSealed(textOf(impl.MaxText)), textOf(impl.MaxText), true)
	for _, n := range []int{impl.MaxText + 1, impl.MaxText + 4, impl.MaxText + 5, 2 * impl.MaxText, 1 << 20} {
		text := textOf(n)
		if s, ok := impl.Sealed(text); s != "" || ok {
			t.Errorf("Sealed of %d bytes: %d bytes, %v; want nothing, false", n, len(s), ok)
		}
		checkUnsealed(t, plainSealed(text), "", false)
	}
}

func TestP2UnsealedShortTexts(t *testing.T) {
	checkUnsealed(t, "", "", false)
	for _, b := range []string{"\x00", "\x01", "\x7f", "\xff"} {
		for n := 1; n < 4; n++ {
			checkUnsealed(t, strings.Repeat(b, n), "", false)
		}
	}
	checkUnsealed(t, "\xff\xff\xff\xff", "", true)
	eachText("\x00\x01\x7f\x80\xfe\xff", 5, func(text string) {
		if len(text) >= 4 && plainSealed(text[:len(text)-4]) == text {
			checkUnsealed(t, text, text[:len(text)-4], true)
		} else {
			checkUnsealed(t, text, "", false)
		}
	})
}

func TestP2TurnedByteIsRefused(t *testing.T) {
	for _, text := range sumTexts {
		sealed := mustSeal(t, text)
		for at := range len(sealed) {
			for turn := 1; turn < 256; turn++ {
				checkUnsealed(t, withByte(sealed, at, sealed[at]^byte(turn)), "", false)
			}
		}
	}
	sealed := mustSeal(t, textOf(impl.MaxText))
	for _, at := range []int{0, 1, 9999, impl.MaxText - 1, impl.MaxText, impl.MaxText + 1, impl.MaxText + 2, impl.MaxText + 3} {
		for bit := range 8 {
			checkUnsealed(t, withByte(sealed, at, sealed[at]^1<<bit), "", false)
		}
		checkUnsealed(t, withByte(sealed, at, ^sealed[at]), "", false)
	}
}

// orders tells every order of the bytes of a text.
func orders(text string, tell func(string)) {
	if text == "" {
		tell("")
	}
	for i := range len(text) {
		orders(text[:i]+text[i+1:], func(rest string) { tell(text[i:i+1] + rest) })
	}
}

func TestP2OtherOrderIsRefused(t *testing.T) {
	for _, text := range sumTexts {
		sealed := mustSeal(t, text)
		n := len(text)
		orders(sealed[n:], func(sum string) {
			if sum != sealed[n:] {
				checkUnsealed(t, text+sum, "", false)
			}
		})
		if n > 0 {
			checkUnsealed(t, sealed[n:]+text, "", false)
		}
	}
	checkUnsealed(t, "abc\x81\x0a\xcd\xa7", "", false)
	checkUnsealed(t, "acb\xa7\xcd\x0a\x81", "", false)
}

func TestP2CutOrLongerIsRefused(t *testing.T) {
	for _, text := range sumTexts {
		if text == "\xff\xff\xff\xff" {
			continue // its sum is 0, and it is a seal itself: see below
		}
		sealed := mustSeal(t, text)
		for cut := range len(sealed) {
			checkUnsealed(t, sealed[:cut], "", false)
		}
		checkUnsealed(t, sealed[1:], "", false)
		for b := range 256 {
			more := string([]byte{byte(b)})
			checkUnsealed(t, sealed+more, "", false)
			checkUnsealed(t, more+sealed, "", false)
		}
	}
}

// A sum of 0 stays 0 over bytes 0, so here what is cut or longer is the seal of another text.
func TestP2CutOrLongerSealOfAnother(t *testing.T) {
	text := "\xff\xff\xff\xff"
	sealed := mustSeal(t, text)
	checkUnsealed(t, sealed[:4], "", true)
	for cut := 5; cut < len(sealed); cut++ {
		checkUnsealed(t, sealed[:cut], "", false)
	}
	checkUnsealed(t, sealed+"\x00", text+"\x00", true)
	checkUnsealed(t, sealed+"\x00\x00", text+"\x00\x00", true)
	for b := 1; b < 256; b++ {
		checkUnsealed(t, sealed+string([]byte{byte(b)}), "", false)
	}
}

func TestP2AnswersAreNewMemory(t *testing.T) {
	for _, text := range []string{"a", "abc", textOf(500)} {
		sealed := mustSeal(t, text)
		if inside(sealed, text) {
			t.Error("Sealed hands out its argument")
		}
		if s, ok := impl.Unsealed(sealed); !ok || inside(s, sealed) {
			t.Error("Unsealed hands out a piece of its argument")
		}
	}
}
