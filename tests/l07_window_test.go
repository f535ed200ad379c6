package tests

import (
	"math"
	"math/rand"
	"slices"
	"testing"

	"loop.example/g00466/impl"
)

func windowOf(top, seen int) impl.Window { return impl.Window{Top: top, Seen: seen} }

// plainCame tells the numbers that a window says came, bit by bit; false when one of its bits stands beyond the sixteenth.
func plainCame(w impl.Window) ([]int, bool) {
	var came []int
	for back, rest := 0, w.Seen; rest > 0; back, rest = back+1, rest/2 {
		if back > 15 {
			return nil, false
		}
		if rest%2 == 1 {
			came = append(came, w.Top-back)
		}
	}
	return came, true
}

func plainWindowOk(w impl.Window) bool {
	if w.Top < -1 || w.Top > 9999 || w.Seen < 0 {
		return false
	}
	came, ok := plainCame(w)
	if w.Top == -1 {
		return ok && len(came) == 0
	}
	return ok && len(came) > 0 && came[0] == w.Top && slices.Min(came) >= 0
}

func plainFresh(w impl.Window, seq int) bool {
	if !plainWindowOk(w) || seq < 0 || seq > 9999 {
		return false
	}
	came, _ := plainCame(w)
	return seq > w.Top || seq >= w.Top-15 && !slices.Contains(came, seq)
}

// windowWith is the window of numbers that came: the greatest, and those of them that are no further than 15 below it.
func windowWith(came ...int) impl.Window {
	w := windowOf(-1, 0)
	if len(came) > 0 {
		w.Top = slices.Max(came)
	}
	for back := range 16 {
		if slices.Contains(came, w.Top-back) {
			w.Seen += int(math.Pow(2, float64(back)))
		}
	}
	return w
}

func plainNoted(w impl.Window, seq int) (impl.Window, bool) {
	if !plainFresh(w, seq) {
		return w, false
	}
	came, _ := plainCame(w)
	return windowWith(append(came, seq)...), true
}

func checkWindowOk(t *testing.T, w impl.Window, want bool) {
	t.Helper()
	if got := impl.WindowOk(w); got != want {
		t.Fatalf("WindowOk(%+v) = %v; want %v", w, got, want)
	}
}

func checkTaken(t *testing.T, w impl.Window, seq int, want impl.Window) {
	t.Helper()
	if !impl.Fresh(w, seq) {
		t.Fatalf("Fresh(%+v, %d) = false; want true", w, seq)
	}
	if got, ok := impl.Noted(w, seq); !ok || got != want {
		t.Fatalf("Noted(%+v, %d) = %+v, %v; want %+v, true", w, seq, got, ok, want)
	}
	checkWindowOk(t, want, true)
	checkNotTaken(t, want, seq)
}

func checkNotTaken(t *testing.T, w impl.Window, seqs ...int) {
	t.Helper()
	for _, seq := range seqs {
		if impl.Fresh(w, seq) {
			t.Fatalf("Fresh(%+v, %d) = true; want false", w, seq)
		}
		if got, ok := impl.Noted(w, seq); ok || got != w {
			t.Fatalf("Noted(%+v, %d) = %+v, %v; want it as it is, false", w, seq, got, ok)
		}
	}
}

// checkWindow holds all of the chapter at one window and one number against the plain way.
func checkWindow(t *testing.T, w impl.Window, seq int) {
	t.Helper()
	if want, taken := plainNoted(w, seq); taken {
		checkTaken(t, w, seq, want)
	} else {
		checkNotTaken(t, w, seq)
	}
}

// checkLife lets numbers come one behind the other, and holds what is taken, and the window, against all that came ahead.
func checkLife(t *testing.T, seqs ...int) {
	t.Helper()
	w, came := impl.WindowNew(), []int{}
	for _, seq := range seqs {
		out := len(came) > 0 && seq < slices.Max(came)-15
		if seq < 0 || seq > 9999 || out || slices.Contains(came, seq) {
			checkNotTaken(t, w, seq)
			continue
		}
		came = append(came, seq)
		want := windowWith(came...)
		checkTaken(t, w, seq, want)
		w = want
	}
	checkNotTaken(t, w, came...)
}

func fromTo(first, last int) []int {
	var list []int
	for n := first; n <= last; n++ {
		list = append(list, n)
	}
	return list
}

func turned(list []int) []int {
	list = slices.Clone(list)
	slices.Reverse(list)
	return list
}

func twiceEach(list []int) []int {
	var out []int
	for _, n := range list {
		out = append(out, n, n)
	}
	return out
}

var (
	farInts = []int{math.MinInt, math.MinInt + 1, math.MinInt + 15, -1 << 32, -65536, 65535, 65536, 1 << 32, 1<<32 + 1, 1 << 62, math.MaxInt - 15, math.MaxInt - 1, math.MaxInt}
	wrongs  = slices.Concat(farInts, []int{-2, -15, -16, -17, 10000, 10001, 10015, 10016})
	someSeq = []int{0, 1, 14, 15, 16, 17, 5000, 9984, 9998, 9999}
)

// Windows that are not right, one for each reason there is, by itself.
var wrongWindows = []impl.Window{
	windowOf(-2, 0), windowOf(-2, 1), windowOf(10000, 1), windowOf(10000, 65535), windowOf(10001, 1),
	windowOf(-1, 1), windowOf(-1, 2), windowOf(-1, 65535), windowOf(-1, -1), windowOf(-1, 65536),
	windowOf(0, 0), windowOf(100, 0), windowOf(9999, 0), windowOf(100, 2), windowOf(100, 65534), windowOf(1, 2),
	windowOf(100, -1), windowOf(100, -65535), windowOf(100, 65536), windowOf(100, 65537), windowOf(9999, 131071),
	windowOf(0, 3), windowOf(1, 5), windowOf(1, 7), windowOf(13, 32767), windowOf(13, 16385), windowOf(14, 65535), windowOf(14, 32769),
	windowOf(math.MinInt, 0), windowOf(math.MinInt, 1), windowOf(math.MaxInt, 0), windowOf(math.MaxInt, 1), windowOf(math.MaxInt, 65535),
	windowOf(-1, math.MinInt), windowOf(-1, math.MaxInt), windowOf(100, math.MinInt), windowOf(100, math.MinInt+1), windowOf(100, math.MaxInt),
	windowOf(math.MinInt, math.MinInt), windowOf(math.MaxInt, math.MaxInt), windowOf(math.MinInt, math.MaxInt), windowOf(math.MaxInt, math.MinInt),
	windowOf(100, 1<<32+1), windowOf(1<<32, 1), windowOf(1<<16+100, 1), windowOf(-1<<16, 1),
}

func TestP7Constants(t *testing.T) {
	if impl.WindowSize != 16 || impl.MaxSeq != 9999 {
		t.Errorf("WindowSize and MaxSeq are %d and %d; want 16 and 9999", impl.WindowSize, impl.MaxSeq)
	}
}

func TestP7WindowNew(t *testing.T) {
	if w := impl.WindowNew(); w != windowOf(-1, 0) {
		t.Fatalf("WindowNew() = %+v; want Top -1, Seen 0", w)
	}
	checkWindowOk(t, impl.WindowNew(), true)
	for seq := 0; seq <= 9999; seq++ {
		checkTaken(t, impl.WindowNew(), seq, windowOf(seq, 1))
	}
	checkNotTaken(t, impl.WindowNew(), -1, 10000)
	checkNotTaken(t, impl.WindowNew(), wrongs...)
}

func TestP7WindowOkEdges(t *testing.T) {
	right := []impl.Window{
		windowOf(-1, 0), windowOf(0, 1), windowOf(1, 1), windowOf(1, 3), windowOf(2, 7), windowOf(13, 16383), windowOf(14, 1), windowOf(14, 32767),
		windowOf(15, 1), windowOf(15, 32769), windowOf(15, 65535), windowOf(16, 65535), windowOf(100, 1), windowOf(100, 65535), windowOf(9998, 65535), windowOf(9999, 1), windowOf(9999, 65535),
	}
	for _, w := range right {
		checkWindowOk(t, w, true)
	}
	for _, w := range wrongWindows {
		checkWindowOk(t, w, false)
	}
	// The zero value is no window: of Top 0 its own bit is missing.
	checkWindowOk(t, impl.Window{}, false)
}

// The greatest Seen of a Top has a bit of each number from it down to 0; one more bit is of a number below 0.
func TestP7WindowOkBitsBelowNone(t *testing.T) {
	for top := range 15 {
		most := windowWith(fromTo(0, top)...)
		checkWindowOk(t, most, true)
		for back := top + 1; back <= 15; back++ {
			checkWindowOk(t, windowOf(top, most.Seen+1<<back), false)
			checkWindowOk(t, windowOf(top, 1+1<<back), false)
		}
	}
}

func TestP7WindowOkOfEverySeen(t *testing.T) {
	for _, top := range slices.Concat(fromTo(-3, 18), []int{5000, 9998, 9999, 10000, 10001}) {
		for seen := -3; seen <= 65540; seen++ {
			w := windowOf(top, seen)
			checkWindowOk(t, w, plainWindowOk(w))
		}
	}
}

func TestP7NumbersInOrder(t *testing.T) {
	w := impl.WindowNew()
	for seq := 0; seq <= 9999; seq++ {
		want := windowOf(seq, 65535)
		if seq < 15 {
			want.Seen = 1<<(seq+1) - 1
		}
		checkTaken(t, w, seq, want)
		w = want
		if seq > 0 {
			checkNotTaken(t, w, seq-1, 0)
		}
	}
	checkNotTaken(t, w, fromTo(-1, 10000)...)
}

func TestP7NumbersTurnedAround(t *testing.T) {
	w := windowOf(100, 1)
	checkTaken(t, impl.WindowNew(), 100, w)
	for back := 1; back <= 15; back++ {
		want := windowOf(100, w.Seen+1<<back)
		checkTaken(t, w, 100-back, want)
		w = want
	}
	if w != windowOf(100, 65535) {
		t.Fatalf("window is %+v; want all seen", w)
	}
	checkNotTaken(t, w, fromTo(0, 100)...)
	checkTaken(t, w, 101, windowOf(101, 65535))
}

// Some orders, and each of them with every number twice: at once, and all of them once more.
func TestP7SomeOrders(t *testing.T) {
	evenThenOdd := []int{0, 2, 4, 6, 8, 10, 12, 14, 1, 3, 5, 7, 9, 11, 13, 15}
	orders := [][]int{
		nil, {0}, {9999}, {5, 3, 5, 30, 14, 15}, {0, 9999, 0}, {9999, 0, 9984, 9983, 9998}, {1, 0}, {0, 1}, {3, 1, 4, 1, 5, 9, 2, 6, 5, 3, 5},
		{0, 16, 0, 1, 15}, {0, 15, 0, 1, 14}, {16, 0, 1}, {15, 0, 16, 1, 0}, {17, 1, 2, 18, 2, 3}, {20, 4, 5, 35, 19, 20, 21},
		fromTo(0, 40), turned(fromTo(0, 40)), evenThenOdd, turned(evenThenOdd), fromTo(9960, 10005), turned(fromTo(9960, 10005)), fromTo(-20, 20), turned(fromTo(-20, 20)),
	}
	for _, order := range orders {
		checkLife(t, order...)
		checkLife(t, twiceEach(order)...)
		checkLife(t, slices.Concat(order, order)...)
		checkLife(t, slices.Concat(order, turned(order))...)
	}
}

func eachOrder(list []int, tell func([]int)) {
	if len(list) == 0 {
		tell(nil)
	}
	for i, n := range list {
		others := slices.Concat(list[:i], list[i+1:])
		eachOrder(others, func(rest []int) { tell(append([]int{n}, rest...)) })
	}
}

// In any order, numbers that are no further than 15 from each other are all taken, once, and make the same window.
func TestP7AnyOrderMakesTheSame(t *testing.T) {
	for _, list := range [][]int{{0, 1, 2, 3, 4, 5}, {7, 8, 10, 15, 16, 22}, {0, 5, 9, 12, 14, 15}, {9984, 9985, 9990, 9997, 9998, 9999}} {
		eachOrder(list, func(order []int) {
			w := impl.WindowNew()
			for _, seq := range order {
				got, ok := impl.Noted(w, seq)
				if !ok {
					t.Fatalf("in the order %v Noted(%+v, %d) is false", order, w, seq)
				}
				w = got
				checkNotTaken(t, w, seq)
			}
			if w != windowWith(list...) {
				t.Fatalf("in the order %v the window is %+v; want %+v", order, w, windowWith(list...))
			}
			checkNotTaken(t, w, order...)
		})
	}
}

// Behind a gap what was seen stands as much further back, and what is 16 or more back is gone.
func TestP7Gaps(t *testing.T) {
	for _, top := range []int{15, 16, 100, 5000} {
		full, own := windowOf(top, 65535), windowOf(top, 1)
		for gap := 1; gap <= 15; gap++ {
			checkTaken(t, own, top+gap, windowOf(top+gap, 1+1<<gap))
			checkTaken(t, full, top+gap, windowOf(top+gap, 1+(65536-1<<gap)))
		}
		for _, gap := range []int{16, 17, 18, 31, 32, 33, 47, 48, 63, 64, 65, 127, 128, 255, 256, 257, 4000, 9999 - top} {
			if top+gap <= 9999 {
				checkTaken(t, own, top+gap, windowOf(top+gap, 1))
				checkTaken(t, full, top+gap, windowOf(top+gap, 1))
			}
		}
	}
	checkTaken(t, windowOf(0, 1), 15, windowOf(15, 32769))
	checkTaken(t, windowOf(0, 1), 16, windowOf(16, 1))
	checkTaken(t, windowOf(0, 1), 17, windowOf(17, 1))
	checkTaken(t, windowOf(0, 1), 9999, windowOf(9999, 1))
	checkTaken(t, windowOf(1, 3), 16, windowOf(16, 32769))
}

// A number 15 below Top is in the window, one 16 below it is just out of it, seen or not.
func TestP7JustOutOfTheWindow(t *testing.T) {
	for _, top := range []int{16, 17, 100, 5000, 9998, 9999} {
		w := windowOf(top, 1)
		checkTaken(t, w, top-15, windowOf(top, 32769))
		checkTaken(t, w, top-14, windowOf(top, 16385))
		checkNotTaken(t, w, top-16, top-17, 0)
		checkNotTaken(t, w, fromTo(-20, top-16)...)
		checkNotTaken(t, windowOf(top, 32769), top-15, top-16, top-17)
		checkNotTaken(t, windowOf(top, 65535), fromTo(-20, top)...)
		checkTaken(t, windowOf(top, 32767), top-15, windowOf(top, 65535))
	}
	// With Top 15 number 0 is the last one in it; below Top 15 the window ends at 0.
	checkTaken(t, windowOf(15, 1), 0, windowOf(15, 32769))
	checkNotTaken(t, windowOf(15, 1), -1)
	checkTaken(t, windowOf(14, 1), 0, windowOf(14, 16385))
	checkNotTaken(t, windowOf(14, 1), -1, -2)
	checkNotTaken(t, windowOf(0, 1), -1, -15, -16, 0)
}

// A number that fell out of the window is not taken again when it comes late, whether it had come or not.
func TestP7LateNumbers(t *testing.T) {
	for gap := 1; gap <= 40; gap++ {
		checkLife(t, 50, 50+gap, 50, 49+gap, 50, 51, 50)
		checkLife(t, 50, 49, 50+gap, 49, 50, 35+gap, 34+gap, 33+gap, 35+gap)
		checkLife(t, 50+gap, 50, 50, 49, 51, 50+gap)
	}
}

func TestP7LeastAndGreatestNumber(t *testing.T) {
	checkTaken(t, windowOf(9998, 65535), 9999, windowOf(9999, 65535))
	checkTaken(t, windowOf(9998, 1), 9999, windowOf(9999, 3))
	checkTaken(t, windowOf(9999, 1), 9998, windowOf(9999, 3))
	checkTaken(t, windowOf(5, 1), 0, windowOf(5, 33))
	for _, w := range []impl.Window{windowOf(-1, 0), windowOf(0, 1), windowOf(5, 1), windowOf(14, 32767), windowOf(15, 1), windowOf(100, 65535), windowOf(9984, 1), windowOf(9998, 1), windowOf(9999, 1), windowOf(9999, 65535)} {
		checkWindowOk(t, w, true)
		checkNotTaken(t, w, -1, 10000)
		checkNotTaken(t, w, wrongs...)
	}
}

func TestP7WindowsThatAreNotRight(t *testing.T) {
	for _, w := range wrongWindows {
		checkNotTaken(t, w, w.Top-16, w.Top-15, w.Top-1, w.Top, w.Top+1, w.Top+16, -1, 10000)
		checkNotTaken(t, w, someSeq...)
		checkNotTaken(t, w, wrongs...)
	}
	checkNotTaken(t, impl.Window{}, fromTo(-1, 10000)...)
}

// Each int that is far off, as Top, as Seen, as both, and as the number.
func TestP7FarInts(t *testing.T) {
	for _, far := range farInts {
		for _, near := range []int{-1, 0, 1, 3, 15, 16, 100, 9999} {
			for _, seq := range slices.Concat(someSeq, wrongs, []int{far - 15, far - 16, far + 1}) {
				checkWindow(t, windowOf(far, near), seq)
				checkWindow(t, windowOf(near, far), seq)
				checkWindow(t, windowOf(far, far), seq)
			}
		}
	}
	for _, far := range farInts {
		if far != 65535 {
			checkWindowOk(t, windowOf(100, far), false)
		}
		checkWindowOk(t, windowOf(far, 1), false)
	}
}

// Every window that is right at some Tops, and the numbers all around it.
func TestP7EveryWindowAroundItsTop(t *testing.T) {
	for _, top := range []int{-1, 0, 1, 7, 14, 15, 16, 17, 9990, 9999} {
		for seen := 0; seen <= 65535; seen++ {
			w := windowOf(top, seen)
			if !plainWindowOk(w) || seen > 4095 && seen < 61440 && seen%7 != 0 {
				continue
			}
			for seq := top - 17; seq <= top+17; seq++ {
				checkWindow(t, w, seq)
			}
		}
	}
}

func TestP7DrawnWindows(t *testing.T) {
	draw := rand.New(rand.NewSource(7))
	for range 20000 {
		top := draw.Intn(10004) - 2
		if draw.Intn(2) == 0 {
			top = draw.Intn(22) - 2
		}
		w := windowOf(top, draw.Intn(65540)-2|draw.Intn(2))
		for range 10 {
			checkWindow(t, w, top-20+draw.Intn(40))
			checkWindow(t, w, draw.Intn(10004)-2)
		}
	}
}

// A drawn life: numbers that go on, that come late, that are lost and that come twice.
func TestP7DrawnLives(t *testing.T) {
	draw := rand.New(rand.NewSource(77))
	for range 300 {
		var seqs []int
		next := draw.Intn(9999)
		if draw.Intn(2) == 0 {
			next = 0
		}
		for range 60 {
			switch draw.Intn(5) {
			case 0, 1:
				next++
			case 2:
				next += draw.Intn(20)
			case 3:
				seqs = append(seqs, next-draw.Intn(20))
			}
			seqs = append(seqs, next)
		}
		checkLife(t, seqs...)
		draw.Shuffle(len(seqs), func(i, j int) { seqs[i], seqs[j] = seqs[j], seqs[i] })
		checkLife(t, seqs...)
	}
}

// No call keeps anything: what was taken in one window is fresh in another one, and in this one as it was.
func TestP7NothingIsKept(t *testing.T) {
	w := windowOf(20, 5)
	for range 3 {
		checkTaken(t, w, 19, windowOf(20, 7))
		checkTaken(t, impl.WindowNew(), 19, windowOf(19, 1))
		checkTaken(t, w, 30, windowOf(30, 5*1024+1))
		checkNotTaken(t, w, 20, 18, 4)
	}
}
