package tests

import (
	"slices"
	"testing"

	"loop.example/g03310/impl"
)

// batchLists are valid, with full and partial loads.
func batchLists() [][]impl.Batch {
	return [][]impl.Batch{
		nil,
		{{Loaves: 25, Minutes: 40}, {Loaves: 10, Minutes: 20}, {Loaves: 5, Minutes: 40}},
		{{Loaves: 24, Minutes: 40}},
		{{Loaves: 1, Minutes: 1}},
		{{Loaves: 500, Minutes: 200}, {Loaves: 499, Minutes: 1}, {Loaves: 1, Minutes: 200}},
		repeated(10, impl.Batch{Loaves: 500, Minutes: 200}),
		{{Loaves: 100, Minutes: 30}, {Loaves: 50, Minutes: 60}, {Loaves: 20, Minutes: 30}, {Loaves: 7, Minutes: 10}},
	}
}

// badBatches have a number that is not in its range.
func badBatches() []impl.Batch {
	list := []impl.Batch{{}}
	for _, n := range outside(1, 500) {
		list = append(list, impl.Batch{Loaves: n, Minutes: 40})
	}
	for _, n := range outside(1, 200) {
		list = append(list, impl.Batch{Loaves: 25, Minutes: n})
	}
	return list
}

// badBatchLists have too many batches or a batch that is not valid.
func badBatchLists() [][]impl.Batch {
	good := impl.Batch{Loaves: 25, Minutes: 40}
	lists := [][]impl.Batch{repeated(11, good), repeated(100, good)}
	for _, b := range badBatches() {
		lists = append(lists, []impl.Batch{b}, []impl.Batch{b, good}, []impl.Batch{good, good, b})
	}
	return lists
}

func TestBatchesOk(t *testing.T) {
	for _, list := range batchLists() {
		if !impl.BatchesOk(list) {
			t.Errorf("BatchesOk(%v) = false", list)
		}
	}
	for _, b := range []impl.Batch{{Loaves: 1, Minutes: 1}, {Loaves: 1, Minutes: 200}, {Loaves: 500, Minutes: 1}, {Loaves: 500, Minutes: 200}} {
		if !impl.BatchesOk([]impl.Batch{b}) {
			t.Errorf("BatchesOk of the batch %v = false", b)
		}
	}
	for _, list := range badBatchLists() {
		if impl.BatchesOk(list) {
			t.Errorf("BatchesOk(%v) = true", list)
		}
	}
}

func TestFunctionsOfBadBatches(t *testing.T) {
	for _, b := range badBatches() {
		if got := impl.LoadsOf(b, 12); got != -1 {
			t.Errorf("LoadsOf(%v, 12) = %d, want -1", b, got)
		}
	}
	for _, list := range badBatchLists() {
		if got := impl.OvenTime(list, 12, 5); got != -1 {
			t.Errorf("OvenTime(%v, 12, 5) = %d, want -1", list, got)
		}
		if got := impl.LeastRoom(list, 5, 100000); got != -1 {
			t.Errorf("LeastRoom(%v, 5, 100000) = %d, want -1", list, got)
		}
		if got := impl.EmptyPlaces(list, 12); got != -1 {
			t.Errorf("EmptyPlaces(%v, 12) = %d, want -1", list, got)
		}
		if got := impl.JoinSame(list); got != nil {
			t.Errorf("JoinSame(%v) = %v, want nil", list, got)
		}
	}
}

func TestLoadsOf(t *testing.T) {
	cases := []struct{ loaves, room, want int }{
		{25, 12, 3}, {24, 12, 2}, {23, 12, 2}, {13, 12, 2}, {12, 12, 1}, {11, 12, 1}, {1, 12, 1}, {1, 500, 1}, {500, 500, 1}, {500, 499, 2},
		{500, 250, 2}, {500, 249, 3}, {500, 1, 500}, {1, 1, 1}, {2, 1, 2},
	}
	for _, c := range cases {
		if got := impl.LoadsOf(impl.Batch{Loaves: c.loaves, Minutes: 40}, c.room); got != c.want {
			t.Errorf("LoadsOf(%d loaves, %d) = %d, want %d", c.loaves, c.room, got, c.want)
		}
	}
	for _, room := range outside(1, 500) {
		if got := impl.LoadsOf(impl.Batch{Loaves: 25, Minutes: 40}, room); got != -1 {
			t.Errorf("LoadsOf(25 loaves, %d) = %d, want -1", room, got)
		}
	}
}

// Full loads leave no place empty, and one more loaf needs another load.
func TestFullLoads(t *testing.T) {
	for room := 1; room <= 250; room++ {
		for loads := 1; loads*room < 500; loads++ {
			full := impl.Batch{Loaves: loads * room, Minutes: 30}
			more := impl.Batch{Loaves: loads*room + 1, Minutes: 30}
			if impl.LoadsOf(full, room) != loads || impl.LoadsOf(more, room) != loads+1 {
				t.Errorf("room %d: LoadsOf %d loaves = %d, of one more %d", room, full.Loaves, impl.LoadsOf(full, room), impl.LoadsOf(more, room))
			}
			if got := impl.EmptyPlaces([]impl.Batch{full}, room); got != 0 {
				t.Errorf("room %d: EmptyPlaces of %d loaves = %d, want 0", room, full.Loaves, got)
			}
			if got := impl.EmptyPlaces([]impl.Batch{more}, room); got != room-1 {
				t.Errorf("room %d: EmptyPlaces of %d loaves = %d, want %d", room, more.Loaves, got, room-1)
			}
		}
	}
}

// timeByLoading loads the oven again and again.
func timeByLoading(list []impl.Batch, room int, load int) (int, int) {
	minutes, empty := 0, 0
	for _, b := range list {
		for left := b.Loaves; left > 0; left -= room {
			minutes += load + b.Minutes
			empty += max(0, room-left)
		}
	}
	return minutes, empty
}

func TestOvenTime(t *testing.T) {
	list := []impl.Batch{{Loaves: 25, Minutes: 40}, {Loaves: 10, Minutes: 20}, {Loaves: 5, Minutes: 40}}
	cases := []struct{ room, load, want int }{
		{12, 5, 205}, {12, 0, 180}, {12, 60, 480}, {13, 5, 160}, {25, 5, 115}, {500, 0, 100}, {1, 0, 1400}, {1, 1, 1440},
	}
	for _, c := range cases {
		if got := impl.OvenTime(list, c.room, c.load); got != c.want {
			t.Errorf("OvenTime(%v, %d, %d) = %d, want %d", list, c.room, c.load, got, c.want)
		}
	}
	if got := impl.OvenTime(nil, 12, 5); got != 0 {
		t.Errorf("OvenTime without batches = %d, want 0", got)
	}
	if got := impl.OvenTime(repeated(10, impl.Batch{Loaves: 500, Minutes: 200}), 1, 60); got != 1300000 {
		t.Errorf("the longest OvenTime = %d, want 1300000", got)
	}
}

func TestOvenByLoading(t *testing.T) {
	for _, list := range batchLists() {
		for room := 1; room <= 500; room += 1 + room/10 {
			for _, load := range []int{0, 1, 60} {
				minutes, empty := timeByLoading(list, room, load)
				if got := impl.OvenTime(list, room, load); got != minutes {
					t.Errorf("OvenTime(%v, %d, %d) = %d, want %d", list, room, load, got, minutes)
				}
				if got := impl.EmptyPlaces(list, room); got != empty {
					t.Errorf("EmptyPlaces(%v, %d) = %d, want %d", list, room, got, empty)
				}
			}
		}
	}
}

// The ranges are checked even if there are no batches.
func TestOvenRejects(t *testing.T) {
	for _, list := range batchLists() {
		for _, room := range outside(1, 500) {
			if got := impl.OvenTime(list, room, 5); got != -1 {
				t.Errorf("OvenTime(%v, %d, 5) = %d, want -1", list, room, got)
			}
			if got := impl.EmptyPlaces(list, room); got != -1 {
				t.Errorf("EmptyPlaces(%v, %d) = %d, want -1", list, room, got)
			}
		}
		for _, load := range outside(0, 60) {
			if got := impl.OvenTime(list, 12, load); got != -1 {
				t.Errorf("OvenTime(%v, 12, %d) = %d, want -1", list, load, got)
			}
			if got := impl.LeastRoom(list, load, 100000); got != -1 {
				t.Errorf("LeastRoom(%v, %d, 100000) = %d, want -1", list, load, got)
			}
		}
		for _, minutes := range outside(0, 100000) {
			if got := impl.LeastRoom(list, 5, minutes); got != -1 {
				t.Errorf("LeastRoom(%v, 5, %d) = %d, want -1", list, minutes, got)
			}
		}
	}
}

// A larger oven is never slower.
func TestLargerOvenIsNeverSlower(t *testing.T) {
	for _, list := range batchLists() {
		for room := 1; room < 500; room++ {
			if impl.OvenTime(list, room+1, 7) > impl.OvenTime(list, room, 7) {
				t.Errorf("the room %d is slower than %d for %v", room+1, room, list)
			}
		}
	}
}

func TestLeastRoom(t *testing.T) {
	list := []impl.Batch{{Loaves: 25, Minutes: 40}, {Loaves: 10, Minutes: 20}, {Loaves: 5, Minutes: 40}}
	cases := []struct{ load, minutes, want int }{
		{5, 160, 13}, {5, 159, 25}, {5, 161, 13}, {5, 205, 10}, {5, 115, 25}, {5, 114, -1}, {5, 50, -1}, {0, 0, -1},
		{0, 100, 25}, {0, 99, -1}, {60, 280, 25}, {60, 279, -1}, {0, 1400, 1}, {0, 1399, 2}, {60, 100000, 1},
	}
	for _, c := range cases {
		if got := impl.LeastRoom(list, c.load, c.minutes); got != c.want {
			t.Errorf("LeastRoom(%v, %d, %d) = %d, want %d", list, c.load, c.minutes, got, c.want)
		}
	}
	if got := impl.LeastRoom(nil, 5, 0); got != 1 {
		t.Errorf("LeastRoom without batches = %d, want 1", got)
	}
	most := []impl.Batch{{Loaves: 500, Minutes: 100}}
	if a, b, c := impl.LeastRoom(most, 0, 100), impl.LeastRoom(most, 0, 199), impl.LeastRoom(most, 0, 99); a != 500 || b != 500 || c != -1 {
		t.Errorf("LeastRoom of 500 loaves = %d, %d and %d; want 500, 500 and -1", a, b, c)
	}
}

// The least room is enough, and one place less is not.
func TestLeastRoomIsEnough(t *testing.T) {
	for _, list := range batchLists() {
		for minutes := 0; minutes <= 100000; minutes += 1 + minutes/9 {
			room := impl.LeastRoom(list, 3, minutes)
			if room == -1 {
				if got, _ := timeByLoading(list, 500, 3); got <= minutes {
					t.Errorf("LeastRoom(%v, 3, %d) = -1", list, minutes)
				}
				continue
			}
			if room < 1 || room > 500 {
				t.Fatalf("LeastRoom(%v, 3, %d) = %d", list, minutes, room)
			}
			if got, _ := timeByLoading(list, room, 3); got > minutes {
				t.Errorf("LeastRoom(%v, 3, %d) = %d is not enough", list, minutes, room)
			}
			if room == 1 {
				continue
			}
			if got, _ := timeByLoading(list, room-1, 3); got <= minutes {
				t.Errorf("LeastRoom(%v, 3, %d) = %d: one place less is enough", list, minutes, room)
			}
		}
	}
}

func TestEmptyPlaces(t *testing.T) {
	list := []impl.Batch{{Loaves: 25, Minutes: 40}, {Loaves: 10, Minutes: 20}, {Loaves: 5, Minutes: 40}}
	cases := []struct{ room, want int }{{12, 20}, {1, 0}, {5, 0}, {25, 35}, {500, 1460}, {10, 10}}
	for _, c := range cases {
		if got := impl.EmptyPlaces(list, c.room); got != c.want {
			t.Errorf("EmptyPlaces(%v, %d) = %d, want %d", list, c.room, got, c.want)
		}
	}
}

func TestJoinSame(t *testing.T) {
	cases := []struct{ list, want []impl.Batch }{
		{nil, nil},
		{[]impl.Batch{{Loaves: 25, Minutes: 40}, {Loaves: 10, Minutes: 20}, {Loaves: 5, Minutes: 40}}, []impl.Batch{{Loaves: 10, Minutes: 20}, {Loaves: 30, Minutes: 40}}},
		{[]impl.Batch{{Loaves: 7, Minutes: 200}}, []impl.Batch{{Loaves: 7, Minutes: 200}}},
		{[]impl.Batch{{Loaves: 250, Minutes: 30}, {Loaves: 250, Minutes: 30}}, []impl.Batch{{Loaves: 500, Minutes: 30}}},
		{[]impl.Batch{{Loaves: 250, Minutes: 30}, {Loaves: 251, Minutes: 30}}, []impl.Batch{{Loaves: 500, Minutes: 30}}},
		{[]impl.Batch{{Loaves: 250, Minutes: 30}, {Loaves: 249, Minutes: 30}}, []impl.Batch{{Loaves: 499, Minutes: 30}}},
		{repeated(10, impl.Batch{Loaves: 500, Minutes: 9}), []impl.Batch{{Loaves: 500, Minutes: 9}}},
		{[]impl.Batch{{Loaves: 500, Minutes: 9}, {Loaves: 3, Minutes: 8}, {Loaves: 1, Minutes: 9}, {Loaves: 4, Minutes: 8}}, []impl.Batch{{Loaves: 7, Minutes: 8}, {Loaves: 500, Minutes: 9}}},
	}
	for _, c := range cases {
		if got := impl.JoinSame(c.list); !slices.Equal(got, c.want) {
			t.Errorf("JoinSame(%v) = %v, want %v", c.list, got, c.want)
		}
	}
}

// Ten different times come in ascending order, however often they are joined.
func TestJoinSameIsSorted(t *testing.T) {
	times := []int{90, 10, 200, 40, 1, 150, 60, 30, 120, 199}
	var list []impl.Batch
	for i, minutes := range times {
		list = append(list, impl.Batch{Loaves: i + 1, Minutes: minutes})
	}
	want := slices.Clone(list)
	slices.SortFunc(want, func(a, b impl.Batch) int { return a.Minutes - b.Minutes })
	for range 50 {
		if got := impl.JoinSame(list); !slices.Equal(got, want) {
			t.Fatalf("JoinSame(%v) = %v, want %v", list, got, want)
		}
	}
}

func TestBatchesAreNotChanged(t *testing.T) {
	list := []impl.Batch{{Loaves: 25, Minutes: 40}, {Loaves: 10, Minutes: 20}, {Loaves: 5, Minutes: 40}}
	mark := impl.Batch{Loaves: 7}
	given := withSpare(list, mark)
	impl.OvenTime(given, 12, 5)
	impl.LeastRoom(given, 5, 160)
	impl.EmptyPlaces(given, 12)
	joined := impl.JoinSame(given)
	clear(joined)
	checkUntouched(t, given, slices.Clone(list), mark)
	single := []impl.Batch{{Loaves: 5, Minutes: 40}}
	clear(impl.JoinSame(single))
	if single[0] != (impl.Batch{Loaves: 5, Minutes: 40}) {
		t.Error("JoinSame shares memory with its argument")
	}
}
