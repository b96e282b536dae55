package tests

import (
	"math/rand/v2"
	"slices"
	"testing"

	"loop.example/g03310/impl"
)

func threeShops() []impl.Shop {
	return []impl.Shop{{Place: 10, Loaves: 20}, {Place: 30, Loaves: 25}, {Place: 50, Loaves: 20}}
}

// shopLists are valid, with up to as many shops as there may be.
func shopLists() [][]impl.Shop {
	lists := [][]impl.Shop{
		nil, threeShops(), {{Place: 1, Loaves: 1}}, {{Place: 1000, Loaves: 100}}, {{Place: 1, Loaves: 100}, {Place: 2, Loaves: 100}}, {{Place: 998, Loaves: 1}, {Place: 999, Loaves: 50}, {Place: 1000, Loaves: 99}},
	}
	r := rand.New(rand.NewPCG(21, 0))
	for n := range 60 {
		var list []impl.Shop
		place := 0
		for range n%7 + 1 {
			place += 1 + r.IntN(120)
			list = append(list, impl.Shop{Place: place, Loaves: 1 + r.IntN(20+n)})
		}
		lists = append(lists, list)
	}
	return lists
}

// tenShops are as many as there may be.
func tenShops() []impl.Shop {
	var list []impl.Shop
	for i, loaves := range []int{40, 15, 60, 25, 33, 8, 50, 21, 47, 12} {
		list = append(list, impl.Shop{Place: 7 + i*i*11, Loaves: loaves})
	}
	return list
}

// badShopLists have too many shops, a place that is not farther than the one
// before, or a number that is not in its range.
func badShopLists() [][]impl.Shop {
	var eleven []impl.Shop
	for i := range 11 {
		eleven = append(eleven, impl.Shop{Place: i + 1, Loaves: 1})
	}
	lists := [][]impl.Shop{{{}}, eleven, {{Place: 10, Loaves: 1}, {Place: 10, Loaves: 1}}, {{Place: 10, Loaves: 1}, {Place: 9, Loaves: 1}}, {{Place: 5, Loaves: 1}, {Place: 9, Loaves: 1}, {Place: 7, Loaves: 1}}}
	for _, n := range outside(1, 1000) {
		lists = append(lists, []impl.Shop{{Place: n, Loaves: 1}}, []impl.Shop{{Place: n, Loaves: 1}, {Place: 500, Loaves: 1}}, []impl.Shop{{Place: 500, Loaves: 1}, {Place: n, Loaves: 1}})
	}
	for _, n := range outside(1, 100) {
		lists = append(lists, []impl.Shop{{Place: 5, Loaves: n}}, []impl.Shop{{Place: 5, Loaves: n}, {Place: 500, Loaves: 1}}, []impl.Shop{{Place: 5, Loaves: 1}, {Place: 500, Loaves: n}})
	}
	return lists
}

// oneByOne returns a trip for each shop.
func oneByOne(n int) [][]int {
	var trips [][]int
	for i := range n {
		trips = append(trips, []int{i})
	}
	return trips
}

func TestShopsOk(t *testing.T) {
	for _, list := range append(shopLists(), tenShops()) {
		if !impl.ShopsOk(list) {
			t.Errorf("ShopsOk(%v) = false", list)
		}
		if trips := oneByOne(len(list)); !impl.TripsOk(list, trips, 100) {
			t.Errorf("TripsOk(%v, %v, 100) = false", list, trips)
		}
	}
	for _, list := range badShopLists() {
		trips := oneByOne(len(list))
		if impl.ShopsOk(list) || impl.TripsOk(list, trips, 100) || impl.TripsOk(list, nil, 100) {
			t.Errorf("ShopsOk or TripsOk of %v is true", list)
		}
		if a, b := impl.WayOf(list, trips), impl.LeastWay(list, 100); a != -1 || b != -1 {
			t.Errorf("WayOf and LeastWay of %v = %d and %d, want -1", list, a, b)
		}
		if got, ok := impl.FarFirst(list, 100); got != nil || ok {
			t.Errorf("FarFirst(%v, 100) = %v, %v; want nil, false", list, got, ok)
		}
	}
}

func TestVanRejectsRoom(t *testing.T) {
	for _, list := range shopLists() {
		for _, room := range outside(1, 100) {
			if impl.TripsOk(list, oneByOne(len(list)), room) {
				t.Errorf("TripsOk(%v) with the room %d is true", list, room)
			}
			if got, ok := impl.FarFirst(list, room); got != nil || ok {
				t.Errorf("FarFirst(%v, %d) = %v, %v; want nil, false", list, room, got, ok)
			}
			if got := impl.LeastWay(list, room); got != -1 {
				t.Errorf("LeastWay(%v, %d) = %d, want -1", list, room, got)
			}
		}
	}
}

func TestTripsOk(t *testing.T) {
	list := threeShops()
	good := []struct {
		trips [][]int
		room  int
	}{
		{[][]int{{2}, {1}, {0}}, 25}, {[][]int{{0, 2}, {1}}, 40}, {[][]int{{2, 0}, {1}}, 40}, {[][]int{{0, 1, 2}}, 65}, {[][]int{{1, 2, 0}}, 100}, {[][]int{{}, {0, 1}, nil, {2}, {}}, 45}, {[][]int{{0}, {1, 2}}, 45},
	}
	for _, c := range good {
		if !impl.TripsOk(list, c.trips, c.room) {
			t.Errorf("TripsOk(%v, %v, %d) = false", list, c.trips, c.room)
		}
	}
	bad := []struct {
		trips [][]int
		room  int
	}{
		{[][]int{{2}, {1}, {0}}, 24}, {[][]int{{0, 2}, {1}}, 39}, {[][]int{{0, 1, 2}}, 64}, {[][]int{{0}, {1, 2}}, 44}, {[][]int{{0, 1}, {2}}, 44},
		{nil, 100}, {[][]int{{}}, 100}, {[][]int{{0}, {1}}, 100}, {[][]int{{1}, {2}}, 100}, {[][]int{{0, 1, 2}, {0}}, 100}, {[][]int{{0, 1}, {1, 2}}, 100}, {[][]int{{0, 1, 2, 2}}, 100}, {[][]int{{0, 0}, {1}, {2}}, 100}, {[][]int{{0, 1, 1}}, 100},
		{[][]int{{0, 1, 2, 3}}, 100}, {[][]int{{0, 1, 3}}, 100}, {[][]int{{0, 1, 2}, {3}}, 100}, {[][]int{{-1, 0, 1, 2}}, 100}, {[][]int{{-1, 1, 2}}, 100}, {[][]int{{0, 1, 2}, {-1}}, 100},
	}
	for _, c := range bad {
		if impl.TripsOk(list, c.trips, c.room) {
			t.Errorf("TripsOk(%v, %v, %d) = true", list, c.trips, c.room)
		}
	}
	for _, n := range farOut {
		for _, trips := range [][][]int{{{0, 1, n}}, {{n}, {0}, {1}, {2}}, {{0, 1, 2}, {n}}} {
			if got := impl.WayOf(list, trips); got != -1 || impl.TripsOk(list, trips, 100) {
				t.Errorf("WayOf(%v, %v) = %d, want -1", list, trips, got)
			}
		}
	}
	if !impl.TripsOk(nil, nil, 1) || !impl.TripsOk(nil, [][]int{{}, nil}, 1) || impl.TripsOk(nil, [][]int{{0}}, 1) {
		t.Error("TripsOk without shops is wrong")
	}
	if trips := make([][]int, 5000); !impl.TripsOk(list, append(trips, []int{0, 1, 2}), 100) {
		t.Error("there may be as many trips without shops as one likes")
	}
}

func TestWayOf(t *testing.T) {
	list := threeShops()
	cases := []struct {
		trips [][]int
		want  int
	}{
		{[][]int{{2}, {1}, {0}}, 180}, {[][]int{{0, 2}, {1}}, 160}, {[][]int{{2, 0}, {1}}, 160}, {[][]int{{0, 1, 2}}, 100}, {[][]int{{1, 0}, {}, {2}}, 160}, {[][]int{{0}, {2, 1}}, 120}, {nil, -1}, {[][]int{{2}, {1}}, -1}, {[][]int{{0}, {1}, {2}, {0}}, -1},
	}
	for _, c := range cases {
		if got := impl.WayOf(list, c.trips); got != c.want {
			t.Errorf("WayOf(%v, %v) = %d, want %d", list, c.trips, got, c.want)
		}
	}
	if a, b := impl.WayOf(nil, nil), impl.WayOf(nil, [][]int{{}}); a != 0 || b != 0 {
		t.Errorf("WayOf without shops = %d and %d, want 0", a, b)
	}
	// The room of the van is 100, whatever a trip brings.
	full := []impl.Shop{{Place: 3, Loaves: 60}, {Place: 4, Loaves: 40}, {Place: 5, Loaves: 1}}
	if a, b := impl.WayOf(full, [][]int{{0, 1}, {2}}), impl.WayOf(full, [][]int{{0, 1, 2}}); a != 18 || b != -1 {
		t.Errorf("WayOf of 100 and of 101 loaves = %d and %d, want 18 and -1", a, b)
	}
}

// farFirstByHand fills one trip after the other from the far end.
func farFirstByHand(list []impl.Shop, room int) [][]int {
	var trips [][]int
	for i := len(list) - 1; i >= 0; {
		var trip []int
		for left := room; i >= 0 && list[i].Loaves <= left; i-- {
			left -= list[i].Loaves
			trip = append(trip, i)
		}
		trips = append(trips, trip)
	}
	return trips
}

// Trips from the far end are allowed.
func TestFarFirst(t *testing.T) {
	cases := []struct {
		room int
		want [][]int
	}{
		{25, [][]int{{2}, {1}, {0}}}, {40, [][]int{{2}, {1}, {0}}}, {44, [][]int{{2}, {1}, {0}}}, {45, [][]int{{2, 1}, {0}}}, {64, [][]int{{2, 1}, {0}}}, {65, [][]int{{2, 1, 0}}}, {100, [][]int{{2, 1, 0}}},
	}
	for _, c := range cases {
		if got, ok := impl.FarFirst(threeShops(), c.room); !ok || !slices.EqualFunc(got, c.want, slices.Equal[[]int]) {
			t.Errorf("FarFirst(%v, %d) = %v, %v; want %v, true", threeShops(), c.room, got, ok, c.want)
		}
	}
	for _, list := range append(shopLists(), tenShops()) {
		most := 1
		for _, s := range list {
			most = max(most, s.Loaves)
		}
		for room := most; room <= 100; room++ {
			got, ok := impl.FarFirst(list, room)
			if want := farFirstByHand(list, room); !ok || !slices.EqualFunc(got, want, slices.Equal[[]int]) {
				t.Errorf("FarFirst(%v, %d) = %v, %v; want %v, true", list, room, got, ok, want)
			}
			if !impl.TripsOk(list, got, room) || impl.WayOf(list, got) < impl.LeastWay(list, room) {
				t.Errorf("FarFirst(%v, %d) = %v is not allowed, or shorter than the least way", list, room, got)
			}
		}
	}
	if got, ok := impl.FarFirst(nil, 1); !ok || len(got) != 0 {
		t.Errorf("FarFirst without shops = %v, %v", got, ok)
	}
}

func TestShopsWithTooManyLoaves(t *testing.T) {
	for k := range 3 {
		list := []impl.Shop{{Place: 10, Loaves: 20}, {Place: 30, Loaves: 20}, {Place: 50, Loaves: 20}}
		list[k].Loaves = 41
		for _, room := range []int{1, 20, 40} {
			if got, ok := impl.FarFirst(list, room); got != nil || ok {
				t.Errorf("FarFirst(%v, %d) = %v, %v; want nil, false", list, room, got, ok)
			}
			if got := impl.LeastWay(list, room); got != -1 {
				t.Errorf("LeastWay(%v, %d) = %d, want -1", list, room, got)
			}
			if impl.TripsOk(list, oneByOne(3), room) {
				t.Errorf("TripsOk(%v) with the room %d is true", list, room)
			}
		}
		if got, ok := impl.FarFirst(list, 41); !ok || impl.LeastWay(list, 41) < 0 || !impl.TripsOk(list, got, 41) {
			t.Errorf("FarFirst(%v, 41) = %v, %v", list, got, ok)
		}
	}
}

// leastWayByTrying puts each shop, one after the other, into each trip there is and
// into one of its own.
func leastWayByTrying(list []impl.Shop, room int, k int, loaves []int) int {
	if k < 0 {
		return 0
	}
	least := -1
	for trip := 0; trip <= len(loaves); trip++ {
		own := 0
		next := slices.Clone(loaves)
		if trip == len(loaves) {
			// The farthest shop of a trip comes first.
			next = append(next, 0)
			own = 2 * list[k].Place
		}
		next[trip] += list[k].Loaves
		if next[trip] > room {
			continue
		}
		if way := leastWayByTrying(list, room, k-1, next); way >= 0 && (least < 0 || own+way < least) {
			least = own + way
		}
	}
	return least
}

// No trips are shorter than the least way.
func TestLeastWay(t *testing.T) {
	cases := []struct{ room, want int }{{24, -1}, {25, 180}, {39, 180}, {40, 160}, {44, 160}, {45, 120}, {64, 120}, {65, 100}, {100, 100}}
	for _, c := range cases {
		if got := impl.LeastWay(threeShops(), c.room); got != c.want {
			t.Errorf("LeastWay(%v, %d) = %d, want %d", threeShops(), c.room, got, c.want)
		}
	}
	for _, list := range shopLists() {
		for room := 1; room <= 100; room += 3 {
			if got, want := impl.LeastWay(list, room), leastWayByTrying(list, room, len(list)-1, nil); got != want {
				t.Errorf("LeastWay(%v, %d) = %d, want %d", list, room, got, want)
			}
		}
	}
	for _, room := range []int{59, 60, 85, 100} {
		if got, want := impl.LeastWay(tenShops(), room), leastWayByTrying(tenShops(), room, 9, nil); got != want {
			t.Errorf("LeastWay(%v, %d) = %d, want %d", tenShops(), room, got, want)
		}
	}
	// Here the trips from the far end are not the shortest ones.
	far, _ := impl.FarFirst(threeShops(), 40)
	if a, b := impl.WayOf(threeShops(), far), impl.WayOf(threeShops(), [][]int{{2, 0}, {1}}); a != 180 || b != 160 {
		t.Errorf("WayOf(%v) = %d and %d, want 180 and 160", far, a, b)
	}
}

func TestShopsAreNotChanged(t *testing.T) {
	list, trip := threeShops(), []int{2, 0}
	mark := impl.Shop{Place: 7}
	given, other := withSpare(list, mark), withSpare(trip, 77)
	trips := [][]int{other, {1}}
	impl.TripsOk(given, trips, 40)
	impl.WayOf(given, trips)
	impl.LeastWay(given, 40)
	far, _ := impl.FarFirst(given, 45)
	checkUntouched(t, given, list, mark)
	checkUntouched(t, other, trip, 77)
	far[0][0] = 9
	_ = append(far[0], 9)
	if !slices.Equal(far[1], []int{0}) {
		t.Errorf("the trips share memory: %v", far)
	}
}
