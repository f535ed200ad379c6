package tests

import (
	"math"
	"math/rand"
	"slices"
	"strings"
	"testing"

	"loop.example/g00466/impl"
)

func partOf(id, total, from int, text string) impl.Part {
	return impl.Part{Id: id, Total: total, From: from, Text: text}
}

func sameBox(b, c impl.Box) bool {
	return b.Id == c.Id && b.Total == c.Total && b.Text == c.Text && slices.Equal(b.Has, c.Has)
}

func plainPieceOk(p impl.Part) bool {
	if !isWithin(p.Id, 0, 65535) || !isWithin(p.Total, 0, 4000) || !isWithin(p.From, 0, p.Total) {
		return false
	}
	return p.From+len(p.Text) <= p.Total
}

func plainPartText(p impl.Part) (string, bool) {
	if !plainPieceOk(p) || len(p.Text) > 1000 {
		return "", false
	}
	return plainVar(p.Id) + plainVar(p.Total) + plainVar(p.From) + plainVar(len(p.Text)) + p.Text, true
}

func plainReadPart(t string) (impl.Part, bool) {
	var numbers [4]int
	for i := range numbers {
		n, rest, ok := cutVar(t)
		if !ok {
			return impl.Part{}, false
		}
		numbers[i], t = n, rest
	}
	p := partOf(numbers[0], numbers[1], numbers[2], t)
	if len(t) != numbers[3] || len(t) > 1000 || !plainPieceOk(p) {
		return impl.Part{}, false
	}
	return p, true
}

func plainBoxOk(b impl.Box) bool { return len(b.Text) == b.Total && len(b.Has) == b.Total }

func plainBoxPut(b impl.Box, p impl.Part) (impl.Box, int) {
	if !plainPieceOk(p) || !plainBoxOk(b) {
		return b, 1
	}
	if b.Id != p.Id || b.Total != p.Total {
		return b, 2
	}
	text, has := []byte(b.Text), slices.Clone(b.Has)
	for i, c := range []byte(p.Text) {
		if has[p.From+i] && text[p.From+i] != c {
			return b, 3
		}
		text[p.From+i], has[p.From+i] = c, true
	}
	return impl.Box{Id: b.Id, Total: b.Total, Text: string(text), Has: has}, 0
}

func plainBoxOf(p impl.Part) (impl.Box, bool) {
	if !plainPieceOk(p) {
		return impl.Box{}, false
	}
	b, _ := plainBoxPut(impl.Box{Id: p.Id, Total: p.Total, Text: strings.Repeat("\x00", p.Total), Has: make([]bool, p.Total)}, p)
	return b, true
}

func plainWhole(b impl.Box) (string, bool) {
	if !plainBoxOk(b) || slices.Contains(b.Has, false) {
		return "", false
	}
	return b.Text, true
}

func plainCut(id int, text string, size int) ([]impl.Part, bool) {
	if !isWithin(id, 0, 65535) || !isWithin(size, 1, 1000) || len(text) > 4000 {
		return nil, false
	}
	parts := []impl.Part{partOf(id, len(text), 0, text[:min(size, len(text))])}
	for from := size; from < len(text); from += size {
		parts = append(parts, partOf(id, len(text), from, text[from:min(from+size, len(text))]))
	}
	return parts, true
}

func checkCut(t *testing.T, id int, text string, size int) []impl.Part {
	t.Helper()
	want, wantOk := plainCut(id, text, size)
	got, ok := impl.CutParts(id, text, size)
	if !slices.Equal(got, want) || ok != wantOk {
		t.Fatalf("CutParts(%d, %d bytes, %d) = %s of %d, %v; want %s of %d, %v", id, len(text), size, brief(got), len(got), ok, brief(want), len(want), wantOk)
	}
	return got
}

// checkPiece holds all that is asked of one part against the plain ways.
func checkPiece(t *testing.T, p impl.Part) {
	t.Helper()
	if got, want := impl.PieceOk(p), plainPieceOk(p); got != want {
		t.Fatalf("PieceOk(%s) = %v", brief(p), got)
	}
	want, wantOk := plainPartText(p)
	got, ok := impl.PartText(p)
	if got != want || ok != wantOk {
		t.Fatalf("PartText(%s) = %s, %v; want %s, %v", brief(p), brief([]byte(got)), ok, brief([]byte(want)), wantOk)
	}
	if ok {
		checkReadPart(t, got, p, true)
	}
	box, isBox := impl.BoxOf(p)
	if wantBox, wantIs := plainBoxOf(p); !sameBox(box, wantBox) || isBox != wantIs {
		t.Fatalf("BoxOf(%s) = %s, %v; want %s, %v", brief(p), brief(box), isBox, brief(wantBox), wantIs)
	}
}

func checkReadPart(t *testing.T, text string, want impl.Part, wantOk bool) {
	t.Helper()
	if got, ok := impl.ReadPart(text); got != want || ok != wantOk {
		t.Fatalf("ReadPart(%s of %d bytes) = %s, %v; want %s, %v", brief([]byte(text)), len(text), brief(got), ok, brief(want), wantOk)
	}
}

func checkBoxPut(t *testing.T, b impl.Box, p impl.Part) (impl.Box, int) {
	t.Helper()
	want, wantCode := plainBoxPut(b, p)
	got, code := impl.BoxPut(b, p)
	if !sameBox(got, want) || code != wantCode {
		t.Fatalf("BoxPut(%s, %s) = %s, %d; want %s, %d", brief(b), brief(p), brief(got), code, brief(want), wantCode)
	}
	return got, code
}

func checkWhole(t *testing.T, b impl.Box) (string, bool) {
	t.Helper()
	want, wantOk := plainWhole(b)
	got, ok := impl.BoxWhole(b)
	if got != want || ok != wantOk {
		t.Fatalf("BoxWhole(%s) = %s, %v; want %s, %v", brief(b), brief([]byte(got)), ok, brief([]byte(want)), wantOk)
	}
	return got, ok
}

// mustWhole has these parts put one behind the other: then the message is whole.
func mustWhole(t *testing.T, parts []impl.Part, message string) {
	t.Helper()
	b, ok := impl.BoxOf(parts[0])
	if !ok {
		t.Fatalf("%s is refused", brief(parts[0]))
	}
	for _, p := range parts[1:] {
		code := 0
		if b, code = checkBoxPut(t, b, p); code != 0 {
			t.Fatalf("the code of %s is %d", brief(p), code)
		}
	}
	if got, ok := checkWhole(t, b); !ok || got != message {
		t.Fatalf("%d parts make %s, %v; want %s", len(parts), brief([]byte(got)), ok, brief([]byte(message)))
	}
}

func TestP30Constants(t *testing.T) {
	if impl.MaxMessage != 4000 {
		t.Errorf("MaxMessage is %d", impl.MaxMessage)
	}
}

func TestP30CutParts(t *testing.T) {
	for _, length := range []int{0, 1, 2, 3, 9, 10, 11, 999, 1000, 1001, 2000, 3999, 4000, 4001, 4002, 20000} {
		text := textOf(length)
		for _, size := range []int{1, 2, 3, 10, 11, 500, 999, 1000, 1001, 1002, 0, -1, math.MinInt, math.MaxInt} {
			for _, id := range []int{0, 7, 65535, 65536, -1, math.MinInt, math.MaxInt} {
				checkCut(t, id, text, size)
			}
		}
	}
	if parts := checkCut(t, 5, "", 4); !slices.Equal(parts, []impl.Part{{Id: 5}}) {
		t.Errorf("of nothing are cut %v", parts)
	}
	if parts := checkCut(t, 5, "hello there", 4); !slices.Equal(parts, []impl.Part{partOf(5, 11, 0, "hell"), partOf(5, 11, 4, "o th"), partOf(5, 11, 8, "ere")}) {
		t.Errorf("cut are %v", parts)
	}
	if parts := checkCut(t, 5, "hello then", 5); !slices.Equal(parts, []impl.Part{partOf(5, 10, 0, "hello"), partOf(5, 10, 5, " then")}) {
		t.Errorf("cut are %v", parts)
	}
}

// Parts in any order make the whole, each of them however often.
func TestP30AnyOrder(t *testing.T) {
	draw := rand.New(rand.NewSource(77))
	eachOrder(fromTo(0, 4), func(order []int) {
		parts := checkCut(t, 9, "nineteen bytes here", 4)
		var turned []impl.Part
		for _, at := range order {
			turned = append(turned, parts[at])
		}
		mustWhole(t, turned, "nineteen bytes here")
		mustWhole(t, slices.Concat(turned[:3], turned), "nineteen bytes here")
		b, _ := impl.BoxOf(turned[0])
		for _, p := range turned[1:4] { // as long as one is missing it is not whole
			b, _ = checkBoxPut(t, b, p)
			checkWhole(t, b)
		}
		if _, ok := impl.BoxWhole(b); ok {
			t.Fatalf("without %v it is whole", turned[4])
		}
	})
	for range 60 {
		length := []int{0, 1, draw.Intn(50), draw.Intn(4001), 4000}[draw.Intn(5)]
		message := drawText(draw, length)
		parts := checkCut(t, draw.Intn(65536), message, max(length/20, 1)+draw.Intn(800))
		for range draw.Intn(10) {
			parts = append(parts, parts[draw.Intn(len(parts))])
		}
		draw.Shuffle(len(parts), func(i, j int) { parts[i], parts[j] = parts[j], parts[i] })
		mustWhole(t, parts, message)
	}
	// Cut in two ways, the parts lie over each other.
	message := textOf(3000)
	parts := slices.Concat(checkCut(t, 1, message, 700), checkCut(t, 1, message, 1000), checkCut(t, 1, message, 333))
	for range 10 {
		draw.Shuffle(len(parts), func(i, j int) { parts[i], parts[j] = parts[j], parts[i] })
		mustWhole(t, parts, message)
	}
}

func TestP30Pieces(t *testing.T) {
	for _, id := range []int{-1, 0, 1, 127, 128, 65535, 65536, math.MinInt, math.MaxInt} {
		checkPiece(t, partOf(id, 10, 3, "text"))
		checkPiece(t, partOf(id, 0, 0, ""))
	}
	for _, total := range []int{-1, 0, 1, 3, 4, 5, 127, 128, 999, 1000, 1001, 3999, 4000, 4001, math.MinInt, math.MinInt + 2, math.MaxInt} {
		for _, from := range []int{-1, 0, 1, total - 1001, total - 1000, total - 5, total - 4, total - 1, total, total + 1, math.MinInt, math.MaxInt, math.MaxInt - 2} {
			for _, size := range []int{0, 1, 4, 5, 999, 1000, 1001, 4000, 4001} {
				checkPiece(t, partOf(7, total, from, textOf(size)))
			}
		}
	}
	// Of more than 1000 bytes a part is right, and makes a box, but has no text.
	long := partOf(7, 4000, 0, textOf(4000))
	if _, ok := impl.PartText(long); ok || !impl.PieceOk(long) {
		t.Error("a part of 4000 bytes is not as it is told")
	}
	b, ok := impl.BoxOf(long)
	if whole, is := impl.BoxWhole(b); !ok || !is || whole != long.Text {
		t.Error("a part of 4000 bytes makes no box")
	}
}

func TestP30ReadPart(t *testing.T) {
	draw := rand.New(rand.NewSource(78))
	none := func(texts ...string) {
		t.Helper()
		for _, text := range texts {
			checkReadPart(t, text, impl.Part{}, false)
		}
	}
	for _, p := range []impl.Part{{}, partOf(5, 11, 4, "o th"), partOf(65535, 4000, 3000, textOf(1000)), partOf(300, 300, 300, ""), partOf(128, 4000, 0, "\x00"), partOf(1, 130, 2, textOf(128))} {
		text, ok := impl.PartText(p)
		if !ok {
			t.Fatalf("%s is refused", brief(p))
		}
		checkReadPart(t, text, p, true)
		for at := range len(text) {
			none(text[:at])
		}
		none(text+"\x00", text+text)
	}
	checkReadPart(t, "\x05\x0b\x04\x04o th", partOf(5, 11, 4, "o th"), true)
	none("\x85\x00\x0b\x04\x04o th", "\x05\x8b\x00\x04\x04o th", "\x05\x0b\x84\x00\x04o th", "\x05\x0b\x04\x84\x00o th", "\x05\x0b\x04\x04o the", "\x05\x0b\x04\x05o th", "\x05\x0b\x04\x03o th", "", "\x00", "\x00\x00\x00")
	// Parts that are not right, and texts of more than 1000 bytes.
	write := func(id, total, from, size int) string {
		return plainVar(id) + plainVar(total) + plainVar(from) + plainVar(size) + textOf(size)
	}
	none(write(65536, 10, 0, 1), write(5, 4001, 0, 1), write(5, 10, 10, 1), write(5, 10, 11, 0), write(5, 4000, 0, 1001), write(5, 0, 0, 1), write(5, 10, 1000000000, 0))
	for range 3000 {
		text := drawText(draw, draw.Intn(9))
		if draw.Intn(2) == 0 {
			text = plainVar(draw.Intn(70000)) + plainVar(draw.Intn(8)) + plainVar(draw.Intn(8)) + plainVar(draw.Intn(4)) + drawText(draw, draw.Intn(4))
		}
		want, wantOk := plainReadPart(text)
		checkReadPart(t, text, want, wantOk)
	}
}

// Each code, in its order; the box stays as it is.
func TestP30Codes(t *testing.T) {
	b, _ := impl.BoxOf(partOf(5, 8, 2, "abc"))
	right := partOf(5, 8, 4, "cd")
	code := func(b impl.Box, p impl.Part, want int) {
		t.Helper()
		if _, got := checkBoxPut(t, b, p); got != want {
			t.Fatalf("the code of BoxPut(%s, %s) is %d; want %d", brief(b), brief(p), got, want)
		}
	}
	code(b, right, 0)
	code(b, partOf(5, 8, 8, ""), 0)
	code(b, partOf(5, 8, 0, "\x00\x00abc\x00\x00\x00"), 0)
	for _, p := range []impl.Part{partOf(-1, 8, 4, "cd"), partOf(65536, 8, 4, "cd"), partOf(5, -1, 4, "cd"), partOf(5, 4001, 4, "cd"), partOf(5, 8, -1, "cd"), partOf(5, 8, 7, "cd"), partOf(5, 8, 9, ""), partOf(6, 8, 7, "cd"), partOf(5, 8, 4, "cdefg"), partOf(5, 8, math.MaxInt, "cd")} {
		code(b, p, 1)
	}
	for _, wrong := range []impl.Box{{Id: 5, Total: 8}, {Id: 5, Total: 8, Text: b.Text}, {Id: 5, Total: 8, Has: b.Has}, {Id: 5, Total: 8, Text: b.Text[:7], Has: b.Has}, {Id: 5, Total: 8, Text: b.Text + "x", Has: b.Has}, {Id: 5, Total: 8, Text: b.Text, Has: b.Has[:7]}, {Id: 5, Total: 8, Text: b.Text, Has: append(slices.Clone(b.Has), true)}, {Id: 5, Total: 7, Text: b.Text, Has: b.Has}, {Id: 6, Total: -1, Text: b.Text, Has: b.Has}, {Total: math.MaxInt}, {Total: math.MinInt}} {
		code(wrong, right, 1)
		code(wrong, partOf(6, 9, 0, "x"), 1)
		if got, ok := checkWhole(t, wrong); got != "" || ok {
			t.Errorf("of %s it is whole: %q", brief(wrong), got)
		}
	}
	for _, p := range []impl.Part{partOf(6, 8, 4, "cd"), partOf(5, 9, 4, "cd"), partOf(5, 7, 4, "cd"), partOf(6, 8, 2, "xyz"), partOf(5, 9, 2, "xyz"), partOf(4, 4000, 0, ""), partOf(5, 0, 0, "")} {
		code(b, p, 2)
	}
	for _, p := range []impl.Part{partOf(5, 8, 2, "x"), partOf(5, 8, 2, "abx"), partOf(5, 8, 0, "xxx"), partOf(5, 8, 4, "xd"), partOf(5, 8, 0, "\x00\x00abd\x00\x00\x00"), partOf(5, 8, 0, strings.Repeat("\x00", 8))} {
		code(b, p, 3)
	}
	// A byte 0 that is there is another one than one that is not: only the first one is held against what comes.
	zeros, _ := impl.BoxOf(partOf(5, 4, 0, "\x00\x00"))
	code(zeros, partOf(5, 4, 0, "a"), 3)
	code(zeros, partOf(5, 4, 2, "a"), 0)
}

// Boxes and parts that are drawn, right or not; also such as no part makes.
func TestP30DrawnBoxes(t *testing.T) {
	draw := rand.New(rand.NewSource(79))
	codes := map[int]int{}
	for range 5000 {
		total := draw.Intn(6)
		b := impl.Box{Id: 5 + draw.Intn(2), Total: total}
		for range total {
			b.Text += string([]byte{"ab"[draw.Intn(2)]})
			b.Has = append(b.Has, draw.Intn(2) == 0)
		}
		if draw.Intn(9) == 0 {
			b.Total += draw.Intn(3) - 1
		}
		text := ""
		for range draw.Intn(4) {
			text += string([]byte{"aab"[draw.Intn(3)]})
		}
		p := partOf(5+draw.Intn(10)/9, total, draw.Intn(6)-1, text)
		checkPiece(t, p)
		_, code := checkBoxPut(t, b, p)
		codes[code]++
		checkWhole(t, b)
	}
	if codes[0] < 100 || codes[1] < 100 || codes[2] < 100 || codes[3] < 100 {
		t.Errorf("codes are %v", codes)
	}
	// Greater than any part tells, a box is right all the same.
	for _, size := range []int{4001, 50000} {
		b := impl.Box{Id: -3, Total: size, Text: textOf(size), Has: slices.Repeat([]bool{true}, size)}
		if got, ok := checkWhole(t, b); !ok || got != b.Text {
			t.Errorf("a box of %d bytes is not whole", size)
		}
		checkBoxPut(t, b, partOf(5, 4000, 0, ""))
	}
}

func TestP30AnswersAreNewMemory(t *testing.T) {
	message := textOf(30)
	parts, _ := impl.CutParts(5, message, 30)
	pieces, _ := impl.CutParts(5, message, 7)
	for _, p := range slices.Concat(parts, pieces) {
		if inside(p.Text, message) {
			t.Fatal("CutParts hands out a piece of its argument")
		}
	}
	text, _ := impl.PartText(pieces[1])
	read, _ := impl.ReadPart(text)
	whole, _ := impl.BoxOf(parts[0])
	got, _ := impl.BoxWhole(whole)
	if inside(read.Text, text) || inside(got, whole.Text) || inside(whole.Text, parts[0].Text) {
		t.Error("an answer is a piece of an argument")
	}
	has := append(slices.Repeat([]bool{true}, 30), true, false, true)
	b := impl.Box{Id: 5, Total: 30, Text: message, Has: has[:30]}
	for _, p := range []impl.Part{parts[0], pieces[2], partOf(5, 30, 0, "x"), partOf(6, 30, 0, ""), partOf(-1, 0, 0, "")} {
		for range 2 {
			after, _ := impl.BoxPut(b, p)
			if inside(after.Text, message) {
				t.Fatal("BoxPut hands out its argument's text")
			}
			list := after.Has[:cap(after.Has)]
			for i := range list {
				list[i] = false
			}
			if !slices.Equal(has, append(slices.Repeat([]bool{true}, 30), true, false, true)) {
				t.Fatalf("the box became %v", has)
			}
		}
	}
}
