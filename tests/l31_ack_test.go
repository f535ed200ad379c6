package tests

import (
	"math"
	"math/rand"
	"slices"
	"sort"
	"strings"
	"testing"

	"loop.example/g00466/impl"
)

func flightOf(sent, got []int, tries int) impl.Flight {
	return impl.Flight{Sent: sent, Got: got, Tries: tries}
}

func sameFlight(f, g impl.Flight) bool {
	return slices.Equal(f.Sent, g.Sent) && slices.Equal(f.Got, g.Got) && f.Tries == g.Tries
}

// isNumbered tells whether a list goes up from number to number, all of them in 0 .. 9999.
func isNumbered(list []int) bool {
	for i, n := range list {
		if !isWithin(n, 0, 9999) || i > 0 && n <= list[i-1] {
			return false
		}
	}
	return true
}

func plainFlightOf(list []int) impl.Flight {
	var sent []int
	for _, n := range list {
		if isWithin(n, 0, 9999) && !slices.Contains(sent, n) {
			sent = append(sent, n)
		}
	}
	sort.Ints(sent)
	return impl.Flight{Sent: sent}
}

func plainFlightOk(f impl.Flight) bool {
	for _, n := range f.Got {
		if !slices.Contains(f.Sent, n) {
			return false
		}
	}
	return isNumbered(f.Sent) && isNumbered(f.Got) && len(f.Sent) < 101 && isWithin(f.Tries, 0, 1000)
}

func plainAckList(list []int) (string, bool) {
	if !isNumbered(list) || len(list) > 100 {
		return "", false
	}
	text := plainVar(len(list))
	for _, n := range list {
		text += plainVar(n)
	}
	return text, true
}

func plainReadAck(t string) ([]int, bool) {
	count, t, ok := cutVar(t)
	var list []int
	for t != "" && ok {
		var n int
		n, t, ok = cutVar(t)
		list = append(list, n)
	}
	if !ok || len(list) != count || count > 100 || !isNumbered(list) {
		return nil, false
	}
	return list, true
}

func plainAckedBy(f impl.Flight, list []int) impl.Flight {
	if !plainFlightOk(f) {
		return f
	}
	var got []int
	for _, n := range f.Sent {
		if slices.Contains(f.Got, n) || slices.Contains(list, n) {
			got = append(got, n)
		}
	}
	return flightOf(f.Sent, got, f.Tries)
}

func plainLeft(f impl.Flight) []int {
	var left []int
	for _, n := range f.Sent {
		if !slices.Contains(f.Got, n) {
			left = append(left, n)
		}
	}
	return left
}

func plainAgain(f impl.Flight) (impl.Flight, []int) {
	left := plainLeft(f)
	if !plainFlightOk(f) || f.Tries == 1000 || left == nil {
		return f, nil
	}
	return flightOf(f.Sent, f.Got, f.Tries+1), left
}

func checkFlightOf(t *testing.T, list []int) {
	t.Helper()
	if got, want := impl.FlightOf(list), plainFlightOf(list); !sameFlight(got, want) {
		t.Fatalf("FlightOf(%s) = %s; want %s", brief(list), brief(got), brief(want))
	}
}

// checkFlight holds all that is asked of a flight against the plain ways.
func checkFlight(t *testing.T, f impl.Flight, lists ...[]int) {
	t.Helper()
	if got, want := impl.FlightOk(f), plainFlightOk(f); got != want {
		t.Fatalf("FlightOk(%s) = %v", brief(f), got)
	}
	if got, want := impl.LeftOf(f), plainLeft(f); !slices.Equal(got, want) {
		t.Fatalf("LeftOf(%s) = %s; want %s", brief(f), brief(got), brief(want))
	}
	got, again := impl.SaidAgain(f)
	if want, left := plainAgain(f); !sameFlight(got, want) || !slices.Equal(again, left) {
		t.Fatalf("SaidAgain(%s) = %s, %s; want %s, %s", brief(f), brief(got), brief(again), brief(want), brief(left))
	}
	for _, list := range lists {
		if got, want := impl.AckedBy(f, list), plainAckedBy(f, list); !sameFlight(got, want) {
			t.Fatalf("AckedBy(%s, %s) = %s; want %s", brief(f), brief(list), brief(got), brief(want))
		}
	}
}

// checkAckList holds a list's text against the plain way; what has a text comes back from it.
func checkAckList(t *testing.T, list []int) string {
	t.Helper()
	want, wantOk := plainAckList(list)
	got, ok := impl.AckList(list)
	if got != want || ok != wantOk {
		t.Fatalf("AckList(%s) = %q, %v; want %q, %v", brief(list), got, ok, want, wantOk)
	}
	if ok {
		checkReadAck(t, got, list, true)
	}
	return got
}

func checkReadAck(t *testing.T, text string, want []int, wantOk bool) {
	t.Helper()
	if got, ok := impl.ReadAck(text); !slices.Equal(got, want) || ok != wantOk {
		t.Fatalf("ReadAck(%s of %d bytes) = %s, %v; want %s, %v", brief([]byte(text)), len(text), brief(got), ok, brief(want), wantOk)
	}
}

func TestP31FlightOf(t *testing.T) {
	draw := rand.New(rand.NewSource(80))
	for _, list := range [][]int{nil, {}, {0}, {9999}, {10000}, {-1}, {3, 1, 3}, {1, 1, 1}, {5, 4, 3}, {math.MinInt, 7, math.MaxInt, 7, 0}, fromTo(0, 99), fromTo(0, 100), turned(fromTo(-5, 10005)), twiceEach(fromTo(9990, 10010))} {
		checkFlightOf(t, list)
	}
	for range 300 {
		var list []int
		for range draw.Intn(30) {
			list = append(list, draw.Intn(20)-3)
		}
		checkFlightOf(t, list)
		checkFlight(t, impl.FlightOf(list), list, nil, fromTo(0, 5))
	}
	if f := impl.FlightOf([]int{3, 1, 3}); !sameFlight(f, flightOf([]int{1, 3}, nil, 0)) || !impl.FlightOk(f) {
		t.Errorf("a flight is %v", f)
	}
	// More than 100 are told all; then it is not right.
	if f := impl.FlightOf(fromTo(0, 100)); len(f.Sent) != 101 || impl.FlightOk(f) {
		t.Errorf("of 101 numbers %d are sent", len(f.Sent))
	}
}

func TestP31FlightOk(t *testing.T) {
	sent := []int{0, 4, 7, 9999}
	lists := [][]int{nil, {4}, {9999, 0}, {1, 2}, fromTo(-1, 100), {math.MinInt, math.MaxInt, 7, 7}}
	for _, tries := range []int{0, 1, 999, 1000} {
		for _, got := range [][]int{nil, {}, {0}, {9999}, {0, 4}, {4, 7, 9999}, sent} {
			f := flightOf(sent, got, tries)
			checkFlight(t, f, lists...)
			if !impl.FlightOk(f) {
				t.Fatalf("%v is not right", f)
			}
		}
	}
	for _, f := range []impl.Flight{
		flightOf(sent, nil, -1), flightOf(sent, nil, 1001), flightOf(sent, nil, math.MinInt), flightOf(sent, nil, math.MaxInt),
		flightOf([]int{-1, 3}, nil, 0), flightOf([]int{3, 10000}, nil, 0), flightOf([]int{3, 3}, nil, 0), flightOf([]int{3, 4, 4, 5}, nil, 0), flightOf([]int{5, 3}, nil, 0), flightOf([]int{math.MinInt, math.MaxInt}, nil, 0), flightOf([]int{10000}, []int{10000}, 0), flightOf([]int{-1}, []int{-1}, 0),
		flightOf(sent, []int{1}, 0), flightOf(sent, []int{0, 1}, 0), flightOf(sent, []int{4, 4}, 0), flightOf(sent, []int{7, 4}, 0), flightOf(sent, []int{-1}, 0), flightOf(sent, []int{10000}, 0), flightOf(nil, []int{0}, 0), flightOf(sent, append(slices.Clone(sent), 9999), 0),
		flightOf(fromTo(0, 100), nil, 0), flightOf(fromTo(0, 100), fromTo(0, 99), 0), flightOf(fromTo(0, 20000), nil, 0),
	} {
		checkFlight(t, f, lists...)
		if impl.FlightOk(f) {
			t.Fatalf("%s is right", brief(f))
		}
	}
	full := flightOf(fromTo(9900, 9999), fromTo(9900, 9999), 1000)
	checkFlight(t, full, lists...)
	if !impl.FlightOk(full) || !impl.FlightOk(flightOf(nil, nil, 1000)) {
		t.Error("at its limits it is not right")
	}
}

// Of a flight that is not right left are those of Sent that are not Got, as they stand there.
func TestP31LeftOfAny(t *testing.T) {
	for _, c := range []struct{ sent, got, left []int }{
		{nil, nil, nil}, {nil, []int{1}, nil}, {[]int{5, 3, 5, -2, 10001}, []int{3, 3, 9}, []int{5, 5, -2, 10001}}, {[]int{2, 2}, []int{2}, nil}, {[]int{math.MaxInt, math.MinInt}, []int{math.MinInt}, []int{math.MaxInt}},
	} {
		f := flightOf(c.sent, c.got, -7)
		if got := impl.LeftOf(f); !slices.Equal(got, c.left) {
			t.Errorf("LeftOf(%v) = %v; want %v", f, got, c.left)
		}
	}
	long := fromTo(-100000, 200000)
	if got := impl.LeftOf(flightOf(long, long[1:], 0)); !slices.Equal(got, long[:1]) {
		t.Errorf("of many are left %s", brief(got))
	}
}

func TestP31AckLists(t *testing.T) {
	if got := checkAckList(t, nil); got != "\x00" {
		t.Errorf("of nothing it is %q", got)
	}
	if got := checkAckList(t, []int{1, 3, 300}); got != "\x03\x01\x03\xac\x02" {
		t.Errorf("of three it is %q", got)
	}
	for _, list := range [][]int{{}, {0}, {9999}, {0, 9999}, {0, 1, 127, 128, 9998, 9999}, fromTo(0, 99), fromTo(9900, 9999), fromTo(9899, 9998)} {
		checkAckList(t, list)
		if _, ok := impl.AckList(list); !ok {
			t.Errorf("%v is refused", list)
		}
	}
	for _, list := range [][]int{{-1}, {10000}, {-1, 0}, {9999, 10000}, {3, 3}, {3, 1}, {0, 1, 1}, {0, 2, 1}, fromTo(0, 100), fromTo(9899, 9999), make([]int, 101), fromTo(0, 20000), {math.MinInt}, {math.MaxInt}, {0, math.MaxInt}} {
		if got := checkAckList(t, list); got != "" {
			t.Errorf("of %s it is %q", brief(list), got)
		}
	}
}

func TestP31ReadAck(t *testing.T) {
	none := func(texts ...string) {
		t.Helper()
		for _, text := range texts {
			checkReadAck(t, text, nil, false)
		}
	}
	checkReadAck(t, "\x00", nil, true)
	checkReadAck(t, "\x02\x05\x80\x01", []int{5, 128}, true)
	for _, list := range [][]int{{7}, {1, 3, 300}, fromTo(100, 199), fromTo(9900, 9999)} {
		text, _ := impl.AckList(list)
		for at := range len(text) {
			none(text[:at])
		}
		none(text+"\x00", text+"\xff", text+text)
	}
	none("", "\x80", "\x01", "\x01\x80", "\x00\x00", "\x00\x01", "\x01\x05\x06", "\x02\x05\x05", "\x02\x05\x04", "\x03\x05\x06")
	none("\x80\x00", "\x81\x00\x05", "\x01\x85\x00", "\x02\x05\x86\x00", "\x02\x85\x00\x06") // longer forms
	hundredOne, most := plainVar(101), plainVar(1000000000)
	for n := range 101 {
		hundredOne += plainVar(n)
	}
	none(hundredOne, plainVar(100)+hundredOne[1:], most, most+hundredOne, "\x01"+plainVar(10000), "\x01"+most, "\xff\xff\xff\xff\xff\x01", "\x01\xff\xff\xff\xff\xff\x01", strings.Repeat("\x64", 20000), strings.Repeat("\xff", 20000))
	draw := rand.New(rand.NewSource(81))
	read := 0
	for range 5000 {
		text := string([]byte{byte(draw.Intn(4))})
		for range draw.Intn(5) {
			text += string([]byte{byte([]int{draw.Intn(9), draw.Intn(9), draw.Intn(9), 128, draw.Intn(256)}[draw.Intn(5)])})
		}
		want, wantOk := plainReadAck(text)
		checkReadAck(t, text, want, wantOk)
		if wantOk {
			read++
		}
	}
	if read < 200 {
		t.Errorf("read were %d", read)
	}
}

// What came is not said again; when all came nothing is.
func TestP31WhatCameIsNotSaidAgain(t *testing.T) {
	draw := rand.New(rand.NewSource(82))
	for range 100 {
		var list []int
		for range draw.Intn(60) {
			list = append(list, draw.Intn(80))
		}
		f := impl.FlightOf(list)
		for tries := 0; ; tries++ {
			checkFlight(t, f)
			next, again := impl.SaidAgain(f)
			if len(f.Got) == len(f.Sent) {
				if len(again) != 0 || !sameFlight(next, f) {
					t.Fatalf("all came, and again are said %v, %v", next, again)
				}
				break
			}
			if len(again) != len(f.Sent)-len(f.Got) || next.Tries != tries+1 || slices.ContainsFunc(again, func(n int) bool { return slices.Contains(f.Got, n) }) {
				t.Fatalf("of %v again are said %v", f, again)
			}
			came := []int{again[0], 5000, -1, again[0]}
			for _, n := range again {
				if draw.Intn(3) == 0 {
					came = append(came, n)
				}
			}
			draw.Shuffle(len(came), func(i, j int) { came[i], came[j] = came[j], came[i] })
			checkFlight(t, next, came)
			f = impl.AckedBy(next, came)
			if !impl.FlightOk(f) || f.Tries != tries+1 {
				t.Fatalf("by %v it is %v", came, f)
			}
		}
	}
	f := flightOf([]int{1, 2}, nil, 999)
	f, again := impl.SaidAgain(f)
	if f.Tries != 1000 || !slices.Equal(again, []int{1, 2}) {
		t.Errorf("the last time it is %v, %v", f, again)
	}
	if f, again = impl.SaidAgain(f); f.Tries != 1000 || len(again) != 0 {
		t.Errorf("behind the last time it is %v, %v", f, again)
	}
	// Acks go on when nothing is said again any more.
	if f = impl.AckedBy(f, []int{2}); !sameFlight(f, flightOf([]int{1, 2}, []int{2}, 1000)) {
		t.Errorf("by 2 it is %v", f)
	}
}

func TestP31DrawnFlights(t *testing.T) {
	draw := rand.New(rand.NewSource(83))
	right := 0
	for range 5000 {
		list := func(most int) []int {
			var list []int
			for range draw.Intn(most) {
				list = append(list, []int{draw.Intn(6), draw.Intn(6), draw.Intn(6), -1, 9999, 10000}[draw.Intn(30)/5])
			}
			if draw.Intn(3) > 0 {
				sort.Ints(list)
			}
			return list
		}
		f := flightOf(list(5), list(3), []int{0, 3, 1000, 1001, -1}[draw.Intn(25)/5])
		checkFlight(t, f, list(6), f.Sent)
		checkAckList(t, f.Sent)
		if impl.FlightOk(f) {
			right++
		}
	}
	if right < 200 {
		t.Errorf("right were %d", right)
	}
}

func TestP31AnswersAreNewMemory(t *testing.T) {
	scribbled := func(lists ...[]int) {
		for _, list := range lists {
			list = list[:cap(list)]
			for i := range list {
				list[i] = -99
			}
		}
	}
	for _, tries := range []int{3, 1000, 1001} {
		for _, gotten := range [][]int{nil, {2}, {1, 2, 3}} {
			sent, got, list := []int{1, 2, 3, 77, 77}, append(slices.Clone(gotten), 77, 77), []int{3, 9, 1, 77, 77}
			f := flightOf(sent[:3], got[:len(gotten)], tries)
			for range 2 {
				impl.FlightOk(f)
				impl.AckList(f.Sent)
				scribbled(impl.FlightOf(list[:3]).Sent, impl.FlightOf(f.Sent).Sent, impl.LeftOf(f))
				acked := impl.AckedBy(f, list[:3])
				if !slices.Equal(acked.Sent, []int{1, 2, 3}) {
					t.Fatalf("it is %v", acked)
				}
				scribbled(acked.Got)
				if !slices.Equal(acked.Sent, []int{1, 2, 3}) {
					t.Fatal("Sent and Got of one answer are one")
				}
				scribbled(acked.Sent)
				again, left := impl.SaidAgain(f)
				scribbled(left)
				if !slices.Equal(again.Sent, []int{1, 2, 3}) {
					t.Fatal("Sent and what is left of one answer are one")
				}
				scribbled(again.Sent, again.Got)
				if !slices.Equal(sent, []int{1, 2, 3, 77, 77}) || !slices.Equal(got, append(slices.Clone(gotten), 77, 77)) || !slices.Equal(list, []int{3, 9, 1, 77, 77}) {
					t.Fatalf("arguments became %v, %v, %v", sent, got, list)
				}
			}
		}
	}
	// Numbers that stand twice, or go down, stay as they stand.
	for _, list := range [][]int{{2, 2, 3}, {3, 2, 2}, {9, 1, 5}, {-1, 10000, 4}} {
		was, room := slices.Clone(list), append(slices.Clone(list), 77)
		f := flightOf(room[:3], room[:3], 1)
		impl.FlightOk(f)
		impl.AckList(room[:3])
		scribbled(impl.FlightOf(room[:3]).Sent, impl.LeftOf(f), impl.AckedBy(f, room[:3]).Got)
		impl.SaidAgain(f)
		if !slices.Equal(room, append(was, 77)) {
			t.Fatalf("%v became %v", was, room)
		}
	}
	text := "\x02\x05\x06"
	one, _ := impl.ReadAck(text)
	scribbled(one)
	checkReadAck(t, text, []int{5, 6}, true)
}
