package tests

import (
	"fmt"
	"math"
	"math/rand"
	"slices"
	"testing"

	"loop.example/g00466/impl"
)

func leaseOf(place, cid int) impl.Lease { return impl.Lease{Place: place, Cid: cid} }

// leasesOf are leases of these cids, at places that are told ahead of each.
func leasesOf(placesAndCids ...int) []impl.Lease {
	var list []impl.Lease
	for i := 0; i < len(placesAndCids); i += 2 {
		list = append(list, leaseOf(placesAndCids[i], placesAndCids[i+1]))
	}
	return list
}

func plainPoolOk(list []impl.Lease) bool {
	for i, l := range list {
		if l.Place < 10 || l.Place > 12 {
			return false
		}
		for _, ahead := range list[:i] {
			if ahead.Place >= l.Place || ahead.Cid == l.Cid {
				return false
			}
		}
	}
	return len(list) <= 3
}

// leasedTold is what Leased answers.
type leasedTold struct {
	list  []impl.Lease
	place int
	ok    bool
}

func (l leasedTold) is(other leasedTold) bool {
	return slices.Equal(l.list, other.list) && l.place == other.place && l.ok == other.ok
}

func plainLeased(list []impl.Lease, cid int) leasedTold {
	if !plainPoolOk(list) {
		return leasedTold{list, 0, false}
	}
	had := map[int]int{}
	for _, l := range list {
		had[l.Place] = l.Cid
		if l.Cid == cid {
			return leasedTold{list, l.Place, true}
		}
	}
	for place := 10; place <= 12; place++ {
		if _, taken := had[place]; !taken {
			with := append(slices.Clone(list), leaseOf(place, cid))
			slices.SortFunc(with, func(x, y impl.Lease) int { return x.Place - y.Place })
			return leasedTold{with, place, true}
		}
	}
	return leasedTold{list, 0, false}
}

func plainGiven(list []impl.Lease, cid int) []impl.Lease {
	var rest []impl.Lease
	for _, l := range list {
		if l.Cid != cid {
			rest = append(rest, l)
		}
	}
	return rest
}

func plainPlaceOf(list []impl.Lease, cid int) int {
	for _, l := range list {
		if l.Cid == cid {
			return l.Place
		}
	}
	return 0
}

func plainCidOf(list []impl.Lease, place int) int {
	for _, l := range list {
		if l.Place == place {
			return l.Cid
		}
	}
	return -1
}

func checkPoolOk(t *testing.T, list []impl.Lease, want bool) {
	t.Helper()
	if got := impl.PoolOk(list); got != want {
		t.Fatalf("PoolOk(%s of %d) = %v; want %v", brief(list), len(list), got, want)
	}
}

func checkLeased(t *testing.T, list []impl.Lease, cid int, want leasedTold) {
	t.Helper()
	after, place, ok := impl.Leased(list, cid)
	if got := (leasedTold{after, place, ok}); !got.is(want) {
		t.Fatalf("Leased(%s of %d, %d) = %s; want %s", brief(list), len(list), cid, brief(got), brief(want))
	}
}

// checkNotLeased asks for false, no place, and the list as it is.
func checkNotLeased(t *testing.T, list []impl.Lease, cid int) {
	t.Helper()
	checkLeased(t, list, cid, leasedTold{list, 0, false})
}

func checkGiven(t *testing.T, list []impl.Lease, cid int, want []impl.Lease) {
	t.Helper()
	if got := impl.Given(list, cid); !slices.Equal(got, want) {
		t.Fatalf("Given(%s of %d, %d) = %s; want %s", brief(list), len(list), cid, brief(got), brief(want))
	}
}

func checkPlaceOf(t *testing.T, list []impl.Lease, cid, want int) {
	t.Helper()
	if got := impl.PlaceOf(list, cid); got != want {
		t.Fatalf("PlaceOf(%s of %d, %d) = %d; want %d", brief(list), len(list), cid, got, want)
	}
}

func checkCidOf(t *testing.T, list []impl.Lease, place, want int) {
	t.Helper()
	if got := impl.CidOf(list, place); got != want {
		t.Fatalf("CidOf(%s of %d, %d) = %d; want %d", brief(list), len(list), place, got, want)
	}
}

// checkPool holds a list against the plain ways, at these cids and places.
func checkPool(t *testing.T, list []impl.Lease, cids, places []int) {
	t.Helper()
	checkPoolOk(t, list, plainPoolOk(list))
	for _, cid := range cids {
		checkLeased(t, list, cid, plainLeased(list, cid))
		checkGiven(t, list, cid, plainGiven(list, cid))
		checkPlaceOf(t, list, cid, plainPlaceOf(list, cid))
	}
	for _, place := range places {
		checkCidOf(t, list, place, plainCidOf(list, place))
	}
}

var (
	someCids   = []int{0, 1, 2, 3, 4, 7, 9, 10, 11, 12, 9999, -1, -2, 1 << 32, math.MinInt, math.MaxInt}
	somePlaces = []int{10, 11, 12, 9, 13, 0, 1, -1, -10, 1 << 32, 10 + 1<<32, math.MinInt, math.MaxInt}
)

func TestP15Constants(t *testing.T) {
	if impl.PoolFirst != 10 || impl.PoolSize != 3 {
		t.Errorf("the pool is %d from %d on; want 3 from 10 on", impl.PoolSize, impl.PoolFirst)
	}
}

// One behind another is given the least place that nobody has, till there is none.
func TestP15LeasedOneBehindAnother(t *testing.T) {
	for _, cids := range [][]int{{4, 7, 9}, {9, 7, 4}, {0, -1, math.MaxInt}, {1, 2, 3}, {10, 11, 12}, {12, 11, 10}, {math.MinInt, 0, 1}} {
		var list []impl.Lease
		for i, cid := range cids {
			checkPlaceOf(t, list, cid, 0)
			checkCidOf(t, list, 10+i, -1)
			want := slices.Concat(list, leasesOf(10+i, cid))
			checkLeased(t, list, cid, leasedTold{want, 10 + i, true})
			list = want
			checkPoolOk(t, list, true)
			for j, had := range cids[:i+1] { // who has one keeps it
				checkLeased(t, list, had, leasedTold{list, 10 + j, true})
				checkPlaceOf(t, list, had, 10+j)
				checkCidOf(t, list, 10+j, had)
			}
		}
		checkNotLeased(t, list, 5)
		checkNotLeased(t, list, -7)
		checkPlaceOf(t, list, 5, 0)
	}
}

// What is given back is given to another one, the least place first; the list stays in its order.
func TestP15GivenBack(t *testing.T) {
	full := leasesOf(10, 4, 11, 7, 12, 9)
	for i, cid := range []int{4, 7, 9} {
		rest := slices.Delete(slices.Clone(full), i, i+1)
		checkGiven(t, full, cid, rest)
		checkPoolOk(t, rest, true)
		checkPlaceOf(t, rest, cid, 0)
		checkCidOf(t, rest, 10+i, -1)
		want := slices.Clone(full)
		want[i].Cid = 8
		checkLeased(t, rest, 8, leasedTold{want, 10 + i, true})
		checkLeased(t, rest, cid, leasedTold{full, 10 + i, true})
	}
	checkGiven(t, full, 5, full)
	checkGiven(t, full, 10, full)
	checkGiven(t, nil, 5, nil)
	last := leasesOf(12, 9)
	checkLeased(t, last, 4, leasedTold{leasesOf(10, 4, 12, 9), 10, true})
	checkLeased(t, leasesOf(10, 4, 12, 9), 7, leasedTold{full, 11, true})
	checkLeased(t, leasesOf(11, 7), 4, leasedTold{leasesOf(10, 4, 11, 7), 10, true})
	checkLeased(t, leasesOf(10, 4, 11, 7), 9, leasedTold{full, 12, true})
	checkLeased(t, last, 9, leasedTold{last, 12, true})
}

// No lease, as many as there are places, and one more; places at both ends, and one past either.
func TestP15PoolOkEdges(t *testing.T) {
	for _, list := range [][]impl.Lease{nil, {}, leasesOf(10, 0), leasesOf(11, 0), leasesOf(12, 0), leasesOf(10, 1, 11, 2), leasesOf(10, 1, 12, 2), leasesOf(11, 1, 12, 2), leasesOf(10, 3, 11, 2, 12, 1),
		leasesOf(10, -1, 11, 0, 12, math.MaxInt), leasesOf(12, math.MinInt), leasesOf(10, 10, 11, 11, 12, 12)} {
		checkPoolOk(t, list, true)
	}
	for _, list := range [][]impl.Lease{
		leasesOf(9, 1), leasesOf(13, 1), leasesOf(0, 1), leasesOf(-1, 1), leasesOf(10+1<<32, 1), leasesOf(math.MinInt, 1), leasesOf(math.MaxInt, 1),
		leasesOf(10, 1, 13, 2), leasesOf(9, 1, 10, 2), leasesOf(10, 1, 11, 2, 12, 3, 13, 4), leasesOf(9, 4, 10, 1, 11, 2, 12, 3), leasesOf(10, 1, 11, 2, 13, 3),
		leasesOf(11, 1, 10, 2), leasesOf(10, 1, 12, 2, 11, 3), leasesOf(12, 1, 11, 2, 10, 3), leasesOf(11, 1, 12, 2, 10, 3),
		leasesOf(10, 1, 10, 2), leasesOf(10, 1, 11, 2, 11, 3), leasesOf(12, 1, 12, 2), leasesOf(10, 1, 11, 2, 12, 3, 12, 4),
		leasesOf(10, 1, 11, 1), leasesOf(10, 1, 11, 2, 12, 1), leasesOf(10, 2, 11, 1, 12, 1), leasesOf(10, 0, 11, 0), leasesOf(10, -1, 12, -1), leasesOf(10, 1, 10, 1), leasesOf(0, 0), {{}},
	} {
		checkPoolOk(t, list, false)
		for _, cid := range someCids {
			checkNotLeased(t, list, cid) // also of one that has a place there
		}
		checkPool(t, list, someCids, somePlaces)
	}
}

// Of lists that are not right all of one's go, and the first of them is told.
func TestP15ListsThatAreNotRight(t *testing.T) {
	list := leasesOf(11, 4, 10, 7, 11, 9, 99, 4, -5, 4, 10, 8)
	checkNotLeased(t, list, 4)
	checkNotLeased(t, list, 5)
	checkGiven(t, list, 4, leasesOf(10, 7, 11, 9, 10, 8))
	checkGiven(t, list, 7, leasesOf(11, 4, 11, 9, 99, 4, -5, 4, 10, 8))
	checkGiven(t, list, 5, list)
	checkGiven(t, leasesOf(10, 4, 10, 4, 10, 4), 4, nil)
	checkPlaceOf(t, list, 4, 11)
	checkPlaceOf(t, list, 8, 10)
	checkPlaceOf(t, list[3:], 4, 99)
	checkPlaceOf(t, list[4:], 4, -5)
	checkPlaceOf(t, leasesOf(0, 4, 10, 4), 4, 0)
	checkCidOf(t, list, 10, 7)
	checkCidOf(t, list, 11, 4)
	checkCidOf(t, list, 99, 4)
	checkCidOf(t, list, -5, 4)
	checkCidOf(t, list, 12, -1)
	checkCidOf(t, leasesOf(10, -1, 10, 5), 10, -1)
}

// Every list of up to three leases, of these places and cids.
func TestP15EveryShortList(t *testing.T) {
	var all []impl.Lease
	for place := 9; place <= 13; place++ {
		for cid := -1; cid <= 2; cid++ {
			all = append(all, leaseOf(place, cid))
		}
	}
	cids, places := []int{-1, 0, 1, 2, 3}, fromTo(8, 14)
	checkPool(t, nil, cids, places)
	for _, x := range all {
		checkPool(t, []impl.Lease{x}, cids, places)
		for _, y := range all {
			checkPool(t, []impl.Lease{x, y}, cids, places)
			for _, z := range all {
				checkPool(t, []impl.Lease{x, y, z}, cids, places)
			}
		}
	}
}

// Drawn lists, longer ones, too.
func TestP15DrawnLists(t *testing.T) {
	draw := rand.New(rand.NewSource(32))
	for range 20000 {
		var list []impl.Lease
		for range draw.Intn(7) {
			list = append(list, leaseOf(9+draw.Intn(5), draw.Intn(6)-1))
		}
		if draw.Intn(2) == 0 {
			slices.SortFunc(list, func(x, y impl.Lease) int { return x.Place - y.Place })
		}
		checkPool(t, list, []int{-1, 0, 1, 2, 3, 4, 5}, fromTo(8, 14))
	}
}

func TestP15LongLists(t *testing.T) {
	var list []impl.Lease
	for i := range 50000 {
		list = append(list, leaseOf(10+i, i))
	}
	checkPoolOk(t, list, false)
	checkNotLeased(t, list, 1)
	checkNotLeased(t, list, -1)
	checkPlaceOf(t, list, 49999, 50009)
	checkPlaceOf(t, list, 50000, 0)
	checkCidOf(t, list, 50009, 49999)
	checkCidOf(t, list, 9, -1)
	checkGiven(t, list, 25000, slices.Delete(slices.Clone(list), 25000, 25001))
	checkGiven(t, slices.Repeat(leasesOf(10, 5, 11, 6), 20000), 5, slices.Repeat(leasesOf(11, 6), 20000))
}

// A drawn life of a pool: places are unlike, who has one keeps it, and both tell the same of who has which.
func TestP15DrawnLives(t *testing.T) {
	draw := rand.New(rand.NewSource(33))
	for range 200 {
		var list []impl.Lease
		had := map[int]int{}
		for range 60 {
			cid := draw.Intn(6)
			if draw.Intn(2) == 0 {
				list = impl.Given(list, cid)
				delete(had, cid)
			} else {
				after, place, ok := impl.Leased(list, cid)
				if old, has := had[cid]; has && (old != place || !ok) || !has && ok != (len(had) < 3) {
					t.Fatalf("Leased(%v, %d) = %v, %d, %v; it had %d", list, cid, after, place, ok, old)
				}
				if ok {
					had[cid] = place
				}
				list = after
			}
			checkPoolOk(t, list, true)
			if len(list) != len(had) {
				t.Fatalf("%v has others than %v", list, had)
			}
			for cid := range 6 {
				checkPlaceOf(t, list, cid, had[cid])
				if place, has := had[cid]; has {
					checkCidOf(t, list, place, cid)
				}
			}
		}
	}
}

func TestP15AnswersAreNewMemory(t *testing.T) {
	spares := leasesOf(77, 77, 78, 78, 79, 79, 80, 80)
	for _, base := range [][]impl.Lease{nil, leasesOf(11, 7), leasesOf(10, 4, 12, 9), leasesOf(10, 4, 11, 7, 12, 9), leasesOf(11, 4, 10, 7), leasesOf(10, 4, 10, 4, 10, 5)} {
		room := slices.Concat(base, spares)
		list := room[:len(base)]
		unchanged := func(by string) {
			t.Helper()
			if !slices.Equal(room, slices.Concat(base, spares)) {
				t.Fatalf("by %s the list, or the room behind it, became %v", by, room)
			}
		}
		for _, cid := range []int{4, 5, 7, 9, 0, -1} {
			after, _, _ := impl.Leased(list, cid)
			given := impl.Given(list, cid)
			for _, answer := range [][]impl.Lease{after, given} {
				answer = answer[:cap(answer)]
				for i := range answer {
					answer[i] = leaseOf(-9, -9)
				}
			}
			unchanged(fmt.Sprintf("Leased or Given of %d", cid))
			impl.PoolOk(list)
			impl.PlaceOf(list, cid)
			impl.CidOf(list, 10)
			unchanged("PoolOk, PlaceOf or CidOf")
			checkPool(t, list, someCids, somePlaces)
			unchanged("all of them")
		}
	}
}
