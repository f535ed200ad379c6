package tests

import (
	"math"
	"math/rand"
	"slices"
	"strconv"
	"strings"
	"testing"
	"unsafe"

	"loop.example/g00466/impl"
)

// Numbers around each length of a VarText, and their bytes, worked out by hand.
var varForms = []struct {
	n     int
	bytes string
}{
	{0, "\x00"},
	{1, "\x01"},
	{127, "\x7f"},
	{128, "\x80\x01"},
	{129, "\x81\x01"},
	{255, "\xff\x01"},
	{256, "\x80\x02"},
	{300, "\xac\x02"},
	{16383, "\xff\x7f"},
	{16384, "\x80\x80\x01"},
	{20000, "\xa0\x9c\x01"},
	{2097151, "\xff\xff\x7f"},
	{2097152, "\x80\x80\x80\x01"},
	{268435455, "\xff\xff\xff\x7f"},
	{268435456, "\x80\x80\x80\x80\x01"},
	{999999999, "\xff\x93\xeb\xdc\x03"},
	{impl.MaxNumber, "\x80\x94\xeb\xdc\x03"},
}

func checkReadVar(t *testing.T, text string, at, wantN, wantNext int, wantOk bool) {
	t.Helper()
	n, next, ok := impl.ReadVar(text, at)
	if n != wantN || next != wantNext || ok != wantOk {
		t.Errorf("ReadVar(%q, %d) = %d, %d, %v; want %d, %d, %v", text, at, n, next, ok, wantN, wantNext, wantOk)
	}
}

func checkReadShort(t *testing.T, text string, at int, wantS string, wantNext int, wantOk bool) {
	t.Helper()
	s, next, ok := impl.ReadShort(text, at)
	if s != wantS || next != wantNext || ok != wantOk {
		t.Errorf("ReadShort(%.40q of %d bytes, %d) = %.40q of %d bytes, %d, %v; want %.40q of %d bytes, %d, %v", text, len(text), at, s, len(s), next, ok, wantS, len(wantS), wantNext, wantOk)
	}
}

func checkUnhex(t *testing.T, text string, want string, wantOk bool) {
	t.Helper()
	s, ok := impl.Unhex(text)
	if s != want || ok != wantOk {
		t.Errorf("Unhex(%.40q of %d bytes) = %.40q, %v; want %.40q, %v", text, len(text), s, ok, want, wantOk)
	}
}

func checkReadDecimal(t *testing.T, text string, want int, wantOk bool) {
	t.Helper()
	n, ok := impl.ReadDecimal(text)
	if n != want || ok != wantOk {
		t.Errorf("ReadDecimal(%.40q of %d bytes) = %d, %v; want %d, %v", text, len(text), n, ok, want, wantOk)
	}
}

func checkParts(t *testing.T, line string, want []string, wantOk bool) {
	t.Helper()
	parts, ok := impl.PartsOf(line)
	if !slices.Equal(parts, want) || ok != wantOk {
		t.Errorf("PartsOf(%q) = %q, %v; want %q, %v", line, parts, ok, want, wantOk)
	}
}

// textOf makes a text of n bytes in which neighbours differ.
func textOf(n int) string {
	out := make([]byte, n)
	for i := range out {
		out[i] = byte(i*7 + i/256)
	}
	return string(out)
}

// eachText tells every text over the alphabet of at most longest bytes.
func eachText(alphabet string, longest int, tell func(string)) {
	tell("")
	if longest == 0 {
		return
	}
	for i := 0; i < len(alphabet); i++ {
		first := alphabet[i : i+1]
		eachText(alphabet, longest-1, func(rest string) { tell(first + rest) })
	}
}

func allBytes() string {
	out := make([]byte, 256)
	for i := range out {
		out[i] = byte(i)
	}
	return string(out)
}

func TestP1Limits(t *testing.T) {
	got := []int{impl.MaxText, impl.MaxNumber, impl.MaxWords, impl.MaxParts}
	if want := []int{20000, 1000000000, 600, 10}; !slices.Equal(got, want) {
		t.Errorf("limits %d; want %d", got, want)
	}
}

func TestP1VarTextWrites(t *testing.T) {
	for _, f := range varForms {
		if s, ok := impl.VarText(f.n); s != f.bytes || !ok {
			t.Errorf("VarText(%d) = %q, %v; want %q, true", f.n, s, ok, f.bytes)
		}
	}
	for _, n := range []int{-1, -128, impl.MaxNumber + 1, 1 << 35, math.MinInt, math.MaxInt} {
		if s, ok := impl.VarText(n); s != "" || ok {
			t.Errorf("VarText(%d) = %q, %v; want nothing, false", n, s, ok)
		}
	}
}

func TestP1VarTextIsReadBack(t *testing.T) {
	check := func(n int) {
		s, ok := impl.VarText(n)
		if !ok {
			t.Fatalf("VarText(%d) is refused", n)
		}
		checkReadVar(t, s, 0, n, len(s), true)
		checkReadVar(t, "\x80\x00"+s, 2, n, 2+len(s), true)
		checkReadVar(t, "ab"+s+"\x80\x00", 2, n, 2+len(s), true)
		for cut := range len(s) {
			checkReadVar(t, s[:cut], 0, 0, 0, false)
		}
	}
	for n := range 40000 {
		check(n)
	}
	for _, f := range varForms {
		check(f.n)
	}
	draw := rand.New(rand.NewSource(1))
	for range 20000 {
		check(draw.Intn(impl.MaxNumber + 1))
	}
}

func TestP1ReadVarRefusesLongerForms(t *testing.T) {
	for _, f := range varForms {
		last := len(f.bytes) - 1
		longer := f.bytes[:last] + string([]byte{f.bytes[last] + 128})
		for range 12 {
			checkReadVar(t, longer+"\x00", 0, 0, 0, false)
			checkReadVar(t, "x"+longer+"\x00y", 1, 0, 0, false)
			longer += "\x80"
		}
	}
}

func TestP1ReadVarRefusesTooMuch(t *testing.T) {
	for _, s := range []string{
		"\x81\x94\xeb\xdc\x03",                     // MaxNumber and 1
		"\x80\x95\xeb\xdc\x03",                     // MaxNumber and 128
		"\x80\x94\xeb\xdc\x04",                     //
		"\xff\xff\xff\xff\x03",                     // 2 to the 30, less 1
		"\xff\xff\xff\xff\x7f",                     // 2 to the 35, less 1
		"\x80\x80\x80\x80\x80\x01",                 // 2 to the 35
		"\x80\x80\x80\x80\x80\x80\x80\x80\x80\x01", // 2 to the 63
		"\x81\x80\x80\x80\x80\x80\x80\x80\x80\x02", // 2 to the 64, and 1
		"\x85\x80\x80\x80\x80\x80\x80\x80\x80\x80\x01",
		strings.Repeat("\xff", 5000),
		strings.Repeat("\x80", 5000) + "\x01",
	} {
		checkReadVar(t, s, 0, 0, 0, false)
	}
}

func TestP1ReadVarPlaces(t *testing.T) {
	text := "\x05\xac\x02"
	checkReadVar(t, text, 0, 5, 1, true)
	checkReadVar(t, text, 1, 300, 3, true)
	checkReadVar(t, text, 2, 2, 3, true)
	for _, at := range []int{3, 4, 100, -1, -3, math.MaxInt, math.MinInt} {
		checkReadVar(t, text, at, 0, 0, false)
	}
	for _, at := range []int{0, 1, -1, math.MaxInt, math.MinInt} {
		checkReadVar(t, "", at, 0, 0, false)
	}
}

// A text is read just where a VarText begins it: every text of a few telling bytes is held against all that VarText writes of them.
func TestP1ReadVarReadsVarTextAlone(t *testing.T) {
	alphabet := "\x00\x01\x03\x04\x7f\x80\x81\x94\xdc\xeb\xff"
	eachText(alphabet, 5, func(text string) {
		n, next, ok := impl.ReadVar(text, 0)
		end := strings.IndexFunc(text, func(r rune) bool { return r < 128 })
		if ok {
			s, right := impl.VarText(n)
			if !right || s != text[:next] {
				t.Fatalf("ReadVar(%q, 0) = %d, %d, but VarText of that is %q, %v", text, n, next, s, right)
			}
			return
		}
		if n != 0 || next != 0 {
			t.Fatalf("ReadVar(%q, 0) = %d, %d beside a false", text, n, next)
		}
		if end < 0 || end > 0 && text[end] == 0 {
			return
		}
		value := 0
		for i := end; i >= 0; i-- {
			value = value<<7 | int(text[i]&127)
		}
		if value <= impl.MaxNumber {
			t.Fatalf("ReadVar(%q, 0) is refused, but it is the VarText of %d", text, value)
		}
	})
}

func TestP1ShortTextIsReadBack(t *testing.T) {
	for _, n := range []int{0, 1, 2, 32, 126, 127, 128, 129, 300, 16383, 16384, impl.MaxText - 1, impl.MaxText} {
		s := textOf(n)
		head, _ := impl.VarText(n)
		short, ok := impl.ShortText(s)
		if !ok || short != head+s {
			t.Fatalf("ShortText of %d bytes: %d bytes, %v; want %d, true", n, len(short), ok, len(head)+n)
		}
		checkReadShort(t, short, 0, s, len(short), true)
		checkReadShort(t, "ab"+short, 2, s, 2+len(short), true)
		checkReadShort(t, "\xff"+short+"cd", 1, s, 1+len(short), true)
		checkReadShort(t, short[:len(short)-1], 0, "", 0, false)
		checkReadShort(t, short[:len(short)/2], 0, "", 0, false)
	}
	for _, n := range []int{impl.MaxText + 1, 2 * impl.MaxText, 1 << 20} {
		if s, ok := impl.ShortText(textOf(n)); s != "" || ok {
			t.Errorf("ShortText of %d bytes: %d bytes, %v; want nothing, false", n, len(s), ok)
		}
	}
}

func TestP1ReadShortRefuses(t *testing.T) {
	tooLong, _ := impl.VarText(impl.MaxText + 1)
	most, _ := impl.VarText(impl.MaxNumber)
	for _, text := range []string{
		"",
		"\x01",
		"\x03ab",
		"\x80",
		"\x80\x00",     // a longer form of 0
		"\x82\x00abcd", // a longer form of 2
		"\x80\x01" + textOf(127),
		"\x80\x80\x80\x80\x80\x01" + textOf(500),
		tooLong + textOf(impl.MaxText+1),
		tooLong + textOf(impl.MaxText+200),
		most + textOf(400),
	} {
		checkReadShort(t, text, 0, "", 0, false)
	}
	for _, at := range []int{-1, 3, 4, math.MaxInt, math.MinInt} {
		checkReadShort(t, "\x02ab", at, "", 0, false)
	}
	checkReadShort(t, "\x02a\x00", 2, "", 3, true)
}

func TestP1HexIsReadBack(t *testing.T) {
	const figures = "0123456789abcdef"
	for b := range 256 {
		s := string([]byte{byte(b)})
		want := string([]byte{figures[b>>4], figures[b&15]})
		if h, ok := impl.Hex(s); h != want || !ok {
			t.Errorf("Hex(%q) = %q, %v; want %q, true", s, h, ok, want)
		}
		checkUnhex(t, want, s, true)
	}
	if h, ok := impl.Hex("Tun\x00\xff"); h != "54756e00ff" || !ok {
		t.Errorf("Hex = %q, %v", h, ok)
	}
	for _, n := range []int{0, 1, 2, 255, impl.MaxText - 1, impl.MaxText} {
		s := textOf(n)
		h, ok := impl.Hex(s)
		if !ok || len(h) != 2*n {
			t.Fatalf("Hex of %d bytes: %d bytes, %v", n, len(h), ok)
		}
		checkUnhex(t, h, s, true)
	}
	for _, n := range []int{impl.MaxText + 1, 2 * impl.MaxText} {
		if h, ok := impl.Hex(textOf(n)); h != "" || ok {
			t.Errorf("Hex of %d bytes: %d bytes, %v; want nothing, false", n, len(h), ok)
		}
	}
}

func TestP1UnhexRefuses(t *testing.T) {
	for _, text := range []string{
		"0", "abc", "00f", "AB", "aB", "Ab", "F0", "0g", "g0", "/0", ":0", "`0", "@0", "G0", " 0", "0 ",
		"-1", "+1", "0x", "0x00", "00 11", "0011\n", "\x00\x00", "é", "٣", "00zz", "zz00",
		strings.Repeat("0", 2*impl.MaxText+1),
		strings.Repeat("0", 2*impl.MaxText+2),
		strings.Repeat("0", 2*impl.MaxText-1) + "F",
	} {
		checkUnhex(t, text, "", false)
	}
	checkUnhex(t, "", "", true)
	const figures = "0123456789abcdef"
	eachText(allBytes(), 2, func(text string) {
		high, low := -1, -1
		if len(text) == 2 {
			high, low = strings.IndexByte(figures, text[0]), strings.IndexByte(figures, text[1])
		}
		switch {
		case text == "":
			checkUnhex(t, text, "", true)
		case high < 0 || low < 0:
			checkUnhex(t, text, "", false)
		default:
			checkUnhex(t, text, string([]byte{byte(high*16 + low)}), true)
		}
	})
}

func TestP1DecimalWrites(t *testing.T) {
	for _, c := range []struct {
		n    int
		want string
	}{
		{0, "0"}, {1, "1"}, {9, "9"}, {10, "10"}, {100, "100"}, {-1, "-1"}, {-10, "-10"}, {12345, "12345"},
		{impl.MaxNumber, "1000000000"}, {impl.MaxNumber + 1, "1000000001"}, {-impl.MaxNumber, "-1000000000"},
		{math.MaxInt, "9223372036854775807"}, {math.MinInt, "-9223372036854775808"},
		{math.MinInt + 1, "-9223372036854775807"}, {1 << 32, "4294967296"},
	} {
		if s := impl.Decimal(c.n); s != c.want {
			t.Errorf("Decimal(%d) = %q; want %q", c.n, s, c.want)
		}
	}
}

func TestP1DecimalIsReadBack(t *testing.T) {
	for n := range 12000 {
		checkReadDecimal(t, impl.Decimal(n), n, true)
	}
	for power := 1; power <= impl.MaxNumber; power *= 10 {
		checkReadDecimal(t, impl.Decimal(power-1), power-1, true)
		checkReadDecimal(t, impl.Decimal(power), power, true)
	}
	draw := rand.New(rand.NewSource(2))
	for range 5000 {
		n := draw.Intn(impl.MaxNumber + 1)
		checkReadDecimal(t, impl.Decimal(n), n, true)
	}
	for _, n := range []int{-1, -10, impl.MaxNumber + 1, 2 * impl.MaxNumber, 10 * impl.MaxNumber, math.MaxInt, math.MinInt} {
		checkReadDecimal(t, impl.Decimal(n), 0, false)
	}
}

func TestP1ReadDecimalRefuses(t *testing.T) {
	for _, text := range []string{
		"", "00", "01", "007", "0000000001", "01000000000", "+0", "-0", "+1", "-1", "-", "+", " 1", "1 ", "1 2",
		"1.0", "1e3", "0x1", "1_000", "1,000", "a", "1a", "a1", "/", ":", "٣", "1\x00", "\n",
		"1000000001", "1000000010", "2000000000", "9999999999", "10000000000",
		"9223372036854775807", "9223372036854775808", "18446744073709551616", "18446744073709551617",
		strings.Repeat("9", 100000), strings.Repeat("0", 100000),
	} {
		checkReadDecimal(t, text, 0, false)
	}
	eachText("0129/:-+ a", 4, func(text string) {
		n, err := strconv.Atoi(text)
		if err == nil && strconv.Itoa(n) == text && n >= 0 {
			checkReadDecimal(t, text, n, true)
		} else {
			checkReadDecimal(t, text, 0, false)
		}
	})
}

func TestP1PartsOf(t *testing.T) {
	for _, c := range []struct {
		line string
		want []string
	}{
		{"", nil},
		{" ", nil},
		{strings.Repeat(" ", impl.MaxWords), nil},
		{"tick", []string{"tick"}},
		{"send 1 2", []string{"send", "1", "2"}},
		{" tick  1 2 ", []string{"tick", "1", "2"}},
		{"   a     b", []string{"a", "b"}},
		{"a b   ", []string{"a", "b"}},
		{"!\"#$ ~}|{ #x", []string{"!\"#$", "~}|{", "#x"}},
		{"a a a", []string{"a", "a", "a"}},
		{"1 2 3 4 5 6 7 8 9 10", []string{"1", "2", "3", "4", "5", "6", "7", "8", "9", "10"}},
		{"  1 2 3 4 5 6 7 8 9 10  ", []string{"1", "2", "3", "4", "5", "6", "7", "8", "9", "10"}},
		{strings.Repeat("x", impl.MaxWords), []string{strings.Repeat("x", impl.MaxWords)}},
		{strings.Repeat(" ", impl.MaxWords-1) + "x", []string{"x"}},
	} {
		checkParts(t, c.line, c.want, true)
	}
}

func TestP1PartsOfRefuses(t *testing.T) {
	for _, line := range []string{
		strings.Repeat(" ", impl.MaxWords+1),
		strings.Repeat("x", impl.MaxWords+1),
		"a b" + strings.Repeat(" ", impl.MaxWords-2),
		"1 2 3 4 5 6 7 8 9 10 11",
		"  1 2 3 4 5 6 7 8 9 10   11 ",
		strings.Repeat("x ", impl.MaxWords/2),
		"tick\t1", "tick 1\n", "\rtick", "a\x00b", "a \x7f", "\x1f", "caf\xc3\xa9", "a\xc2\xa0b", "\xff", "\x80",
	} {
		checkParts(t, line, nil, false)
	}
	for b := range 256 {
		s := string([]byte{byte(b)})
		switch {
		case b < 32 || b > 126:
			checkParts(t, s, nil, false)
			checkParts(t, "ab "+s+" cd", nil, false)
			checkParts(t, "ab cd"+s, nil, false)
		case b == 32:
			checkParts(t, "a"+s+"c", []string{"a", "c"}, true)
		default:
			checkParts(t, s, []string{s}, true)
			checkParts(t, "a"+s+"c "+s, []string{"a" + s + "c", s}, true)
		}
	}
}

// The parts, told one by one: a part is a run of bytes that are no blanks.
func TestP1PartsOfSmallLines(t *testing.T) {
	eachText(" ab", 8, func(line string) {
		var want []string
		for _, piece := range strings.Split(line, " ") {
			if piece != "" {
				want = append(want, piece)
			}
		}
		checkParts(t, line, want, true)
	})
}

func inside(part string, whole string) bool {
	if part == "" || whole == "" {
		return false
	}
	begin := uintptr(unsafe.Pointer(unsafe.StringData(whole)))
	at := uintptr(unsafe.Pointer(unsafe.StringData(part)))
	return at >= begin && at < begin+uintptr(len(whole))
}

func TestP1AnswersAreNewMemory(t *testing.T) {
	text := "\x05hello"
	if s, _, ok := impl.ReadShort(text, 0); !ok || inside(s, text) {
		t.Error("ReadShort hands out a piece of its argument")
	}
	line := "send 1 2"
	parts, ok := impl.PartsOf(line)
	if !ok || slices.ContainsFunc(parts, func(p string) bool { return inside(p, line) }) {
		t.Error("PartsOf hands out a piece of its argument")
	}
}
