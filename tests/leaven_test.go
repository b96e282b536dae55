package tests

import (
	"slices"
	"testing"

	"loop.example/g03310/impl"
)

// badLeavens have grams or feedings that are not in their range.
func badLeavens() []impl.Leaven {
	var list []impl.Leaven
	for _, n := range outside(0, 100000) {
		list = append(list, impl.Leaven{Grams: n, Fed: 3})
	}
	for _, n := range outside(0, 1000) {
		list = append(list, impl.Leaven{Grams: 10, Fed: n})
	}
	return list
}

func TestLeavenOk(t *testing.T) {
	for _, l := range []impl.Leaven{{}, {Grams: 100000}, {Fed: 1000}, {Grams: 100000, Fed: 1000}, {Grams: 10, Fed: 3}} {
		if !impl.LeavenOk(l) {
			t.Errorf("LeavenOk(%v) = false", l)
		}
	}
	for _, l := range badLeavens() {
		if impl.LeavenOk(l) {
			t.Errorf("LeavenOk(%v) = true", l)
		}
	}
}

func TestFunctionsOfBadLeavens(t *testing.T) {
	for _, l := range badLeavens() {
		if got, ok := impl.Feed(l, 2); ok || got != l {
			t.Errorf("Feed(%v, 2) = %v, %v", l, got, ok)
		}
		if got, ok := impl.TakeLeaven(l, 0, 0); ok || got != l {
			t.Errorf("TakeLeaven(%v, 0, 0) = %v, %v", l, got, ok)
		}
		for _, need := range []int{0, 5, 50} {
			if got := impl.FeedingsFor(l, 2, need); got != -1 {
				t.Errorf("FeedingsFor(%v, 2, %d) = %d, want -1", l, need, got)
			}
		}
	}
}

func TestFeed(t *testing.T) {
	cases := []struct {
		l     impl.Leaven
		times int
		want  impl.Leaven
		ok    bool
	}{
		{impl.Leaven{Grams: 10}, 2, impl.Leaven{Grams: 30, Fed: 1}, true},
		{impl.Leaven{Grams: 10, Fed: 6}, 1, impl.Leaven{Grams: 20, Fed: 7}, true},
		{impl.Leaven{Grams: 1}, 10, impl.Leaven{Grams: 11, Fed: 1}, true},
		{impl.Leaven{Grams: 50000}, 1, impl.Leaven{Grams: 100000, Fed: 1}, true},
		{impl.Leaven{Grams: 50001}, 1, impl.Leaven{Grams: 50001}, false},
		{impl.Leaven{Grams: 10000}, 9, impl.Leaven{Grams: 100000, Fed: 1}, true},
		{impl.Leaven{Grams: 10000}, 10, impl.Leaven{Grams: 10000}, false},
		{impl.Leaven{Grams: 100000, Fed: 4}, 1, impl.Leaven{Grams: 100000, Fed: 4}, false},
		{impl.Leaven{Grams: 10, Fed: 999}, 2, impl.Leaven{Grams: 30, Fed: 1000}, true},
		{impl.Leaven{Grams: 10, Fed: 1000}, 2, impl.Leaven{Grams: 10, Fed: 1000}, false},
		{impl.Leaven{}, 2, impl.Leaven{}, false},
		{impl.Leaven{Fed: 5}, 2, impl.Leaven{Fed: 5}, false},
	}
	for _, c := range cases {
		if got, ok := impl.Feed(c.l, c.times); got != c.want || ok != c.ok {
			t.Errorf("Feed(%v, %d) = %v, %v; want %v, %v", c.l, c.times, got, ok, c.want, c.ok)
		}
	}
}

// Feeding multiplies, by every number of times in the range and by no other.
func TestFeedMultiplies(t *testing.T) {
	for times := 1; times <= 10; times++ {
		for grams := 1; grams <= 9000; grams += 13 {
			l := impl.Leaven{Grams: grams, Fed: 3}
			want := impl.Leaven{Grams: grams + grams*times, Fed: 4}
			if got, ok := impl.Feed(l, times); !ok || got != want {
				t.Errorf("Feed(%v, %d) = %v, %v; want %v, true", l, times, got, ok, want)
			}
		}
	}
	l := impl.Leaven{Grams: 10, Fed: 3}
	for _, times := range outside(1, 10) {
		if got, ok := impl.Feed(l, times); ok || got != l {
			t.Errorf("Feed(%v, %d) = %v, %v; want it unchanged, false", l, times, got, ok)
		}
	}
}

func TestTakeLeaven(t *testing.T) {
	cases := []struct {
		l           impl.Leaven
		grams, keep int
		left        int
		ok          bool
	}{
		{impl.Leaven{Grams: 30, Fed: 1}, 25, 5, 5, true},
		{impl.Leaven{Grams: 30, Fed: 1}, 24, 5, 6, true},
		{impl.Leaven{Grams: 30, Fed: 1}, 26, 5, 30, false},
		{impl.Leaven{Grams: 30, Fed: 1}, 25, 6, 30, false},
		{impl.Leaven{Grams: 30}, 30, 0, 0, true},
		{impl.Leaven{Grams: 30}, 31, 0, 30, false},
		{impl.Leaven{Grams: 30}, 0, 30, 30, true},
		{impl.Leaven{Grams: 30}, 0, 31, 30, false},
		{impl.Leaven{Grams: 30}, 0, 0, 30, true},
		{impl.Leaven{}, 0, 0, 0, true},
		{impl.Leaven{}, 1, 0, 0, false},
		{impl.Leaven{Grams: 100000, Fed: 1000}, 100000, 0, 0, true},
		{impl.Leaven{Grams: 100000, Fed: 1000}, 0, 100000, 100000, true},
		{impl.Leaven{Grams: 100000}, 100000, 100000, 100000, false},
	}
	for _, c := range cases {
		want := impl.Leaven{Grams: c.left, Fed: c.l.Fed}
		if got, ok := impl.TakeLeaven(c.l, c.grams, c.keep); got != want || ok != c.ok {
			t.Errorf("TakeLeaven(%v, %d, %d) = %v, %v; want %v, %v", c.l, c.grams, c.keep, got, ok, want, c.ok)
		}
	}
	l := impl.Leaven{Grams: 100000, Fed: 2}
	for _, n := range outside(0, 100000) {
		if got, ok := impl.TakeLeaven(l, n, 0); ok || got != l {
			t.Errorf("TakeLeaven(%v, %d, 0) = %v, %v; want it unchanged, false", l, n, got, ok)
		}
		if got, ok := impl.TakeLeaven(l, 0, n); ok || got != l {
			t.Errorf("TakeLeaven(%v, 0, %d) = %v, %v; want it unchanged, false", l, n, got, ok)
		}
	}
}

func TestFeedingsFor(t *testing.T) {
	cases := []struct {
		l           impl.Leaven
		times, need int
		want        int
	}{
		{impl.Leaven{Grams: 10}, 2, 200, 3},
		{impl.Leaven{Grams: 10}, 2, 270, 3},
		{impl.Leaven{Grams: 10}, 2, 271, 4},
		{impl.Leaven{Grams: 10}, 2, 30, 1},
		{impl.Leaven{Grams: 10}, 2, 11, 1},
		{impl.Leaven{Grams: 10}, 2, 10, 0},
		{impl.Leaven{Grams: 10}, 2, 0, 0},
		{impl.Leaven{}, 2, 0, 0},
		{impl.Leaven{}, 2, 1, -1},
		{impl.Leaven{Grams: 1}, 1, 65536, 16},
		{impl.Leaven{Grams: 1}, 1, 65537, -1},
		{impl.Leaven{Grams: 1}, 9, 100000, 5},
		{impl.Leaven{Grams: 1}, 10, 14642, -1},
		{impl.Leaven{Grams: 100000}, 1, 100000, 0},
		{impl.Leaven{Grams: 99999}, 1, 100000, -1},
		{impl.Leaven{Grams: 50000}, 1, 100000, 1},
		{impl.Leaven{Grams: 10, Fed: 998}, 1, 40, 2},
		{impl.Leaven{Grams: 10, Fed: 998}, 1, 41, -1},
		{impl.Leaven{Grams: 10, Fed: 1000}, 1, 10, 0},
		{impl.Leaven{Grams: 10, Fed: 1000}, 1, 11, -1},
	}
	for _, c := range cases {
		if got := impl.FeedingsFor(c.l, c.times, c.need); got != c.want {
			t.Errorf("FeedingsFor(%v, %d, %d) = %d, want %d", c.l, c.times, c.need, got, c.want)
		}
	}
	l := impl.Leaven{Grams: 10}
	for _, need := range outside(0, 100000) {
		if got := impl.FeedingsFor(l, 2, need); got != -1 {
			t.Errorf("FeedingsFor(%v, 2, %d) = %d, want -1", l, need, got)
		}
	}
	// The number of times matters just if there has to be a feeding.
	for _, times := range outside(1, 10) {
		if got := impl.FeedingsFor(l, times, 11); got != -1 {
			t.Errorf("FeedingsFor(%v, %d, 11) = %d, want -1", l, times, got)
		}
		if got := impl.FeedingsFor(l, times, 10); got != 0 {
			t.Errorf("FeedingsFor(%v, %d, 10) = %d, want 0", l, times, got)
		}
	}
}

// lastsAllDays feeds and takes day by day, in plain numbers.
func lastsAllDays(grams int, needs []int, times int) bool {
	for _, need := range needs {
		grams *= times + 1
		if grams == 0 || grams > 100000 || grams-need < 1 {
			return false
		}
		grams -= need
	}
	return true
}

// leastByTrying tries all grams from 0 on.
func leastByTrying(needs []int, times int) int {
	for grams := range 100001 {
		if lastsAllDays(grams, needs, times) {
			return grams
		}
	}
	return -1
}

func TestKeepForDays(t *testing.T) {
	cases := []struct {
		needs []int
		times int
		want  int
	}{
		{[]int{20, 20}, 1, 16},
		{[]int{20}, 1, 11},
		{[]int{21}, 1, 11},
		{[]int{22}, 1, 12},
		{[]int{10000}, 1, 5001},
		{[]int{10000}, 10, 910},
		{[]int{0, 0, 0, 10000}, 10, 1},
		{[]int{10000, 10000}, 1, 7501},
		{repeated(10, 10000), 1, 9991},
		{repeated(10, 10000), 10, 1000},
	}
	for _, c := range cases {
		if got := impl.KeepForDays(c.needs, c.times); got != c.want {
			t.Errorf("KeepForDays(%v, %d) = %d, want %d", c.needs, c.times, got, c.want)
		}
		if got := leastByTrying(c.needs, c.times); got != c.want {
			t.Errorf("%v, %d times: trying finds %d, want %d", c.needs, c.times, got, c.want)
		}
	}
}

// What is kept lasts for all days, and no lesser amount does.
func TestKeepForDaysIsTheLeast(t *testing.T) {
	needs := []int{0, 1, 2, 3, 10, 19, 20, 500, 10000}
	for times := 1; times <= 10; times += 3 {
		for _, a := range needs {
			for _, b := range needs {
				for _, c := range needs {
					days := []int{a, b, c}
					if got, want := impl.KeepForDays(days, times), leastByTrying(days, times); got != want {
						t.Errorf("KeepForDays(%v, %d) = %d, want %d", days, times, got, want)
					}
				}
			}
		}
	}
}

// On a day without need there has to be something to feed, and what grows on
// such days must not grow beyond the range.
func TestKeepForDaysWithoutNeed(t *testing.T) {
	cases := []struct {
		days, times, want int
	}{
		{0, 1, 0}, {0, 10, 0}, {1, 1, 1}, {1, 10, 1}, {4, 10, 1}, {5, 10, -1}, {5, 9, 1}, {6, 9, -1},
		{10, 1, 1}, {10, 2, 1}, {10, 3, -1}, {8, 3, 1}, {9, 3, -1}, {10, 10, -1},
	}
	for _, c := range cases {
		if got := impl.KeepForDays(make([]int, c.days), c.times); got != c.want {
			t.Errorf("KeepForDays of %d days without need, %d times = %d, want %d", c.days, c.times, got, c.want)
		}
	}
	for _, needs := range [][]int{{0, 20}, {20, 0}, {0, 20, 0}, {0, 0, 100}, {100, 0, 0}, {0, 0, 0, 0, 10000}, {10000, 0, 0, 0, 0}} {
		for times := 1; times <= 10; times++ {
			if got, want := impl.KeepForDays(needs, times), leastByTrying(needs, times); got != want {
				t.Errorf("KeepForDays(%v, %d) = %d, want %d", needs, times, got, want)
			}
		}
	}
}

func TestKeepForDaysRejects(t *testing.T) {
	if got := impl.KeepForDays(make([]int, 11), 1); got != -1 {
		t.Errorf("KeepForDays of 11 days = %d, want -1", got)
	}
	for _, times := range outside(1, 10) {
		for _, needs := range [][]int{nil, {0}, {20, 20}} {
			if got := impl.KeepForDays(needs, times); got != -1 {
				t.Errorf("KeepForDays(%v, %d) = %d, want -1", needs, times, got)
			}
		}
	}
	for _, n := range outside(0, 10000) {
		for _, needs := range [][]int{{n}, {n, 20}, {20, n}, {20, n, 20}} {
			if got := impl.KeepForDays(needs, 2); got != -1 {
				t.Errorf("KeepForDays(%v, 2) = %d, want -1", needs, got)
			}
		}
	}
}

func TestKeepForDaysChangesNothing(t *testing.T) {
	needs := []int{20, 0, 30}
	list := withSpare(needs, 77)
	impl.KeepForDays(list, 2)
	checkUntouched(t, list, slices.Clone(needs), 77)
}
