package tests

import (
	"slices"
	"testing"

	"loop.example/g03310/impl"
)

// speedByHand is the list of the document.
func speedByHand(degrees int) int {
	switch {
	case degrees < -30 || degrees > 60:
		return -1
	case degrees < 4 || degrees >= 35:
		return 0
	case degrees <= 9:
		return 1
	case degrees <= 15:
		return 2
	case degrees <= 21:
		return 4
	case degrees <= 27:
		return 8
	}
	return 16
}

func TestSpeedAt(t *testing.T) {
	for degrees := -40; degrees <= 70; degrees++ {
		if got := impl.SpeedAt(degrees); got != speedByHand(degrees) {
			t.Errorf("SpeedAt(%d) = %d, want %d", degrees, got, speedByHand(degrees))
		}
	}
	for _, degrees := range outside(-30, 60) {
		if got := impl.SpeedAt(degrees); got != -1 {
			t.Errorf("SpeedAt(%d) = %d, want -1", degrees, got)
		}
	}
}

// Warmer dough is never slower up to a bound, from which on it does not rise.
func TestWarmerIsNeverSlower(t *testing.T) {
	for degrees := -30; degrees < 34; degrees++ {
		if impl.SpeedAt(degrees+1) < impl.SpeedAt(degrees) {
			t.Errorf("a dough is slower at %d degrees than at %d", degrees+1, degrees)
		}
	}
	if impl.SpeedAt(34) != 16 || impl.SpeedAt(35) != 0 || impl.SpeedAt(60) != 0 {
		t.Error("the bound is not at 35 degrees")
	}
}

func TestRiseAfter(t *testing.T) {
	cases := []struct {
		degrees []int
		want    int
	}{
		{nil, 0},
		{[]int{}, 0},
		{[]int{5, 12, 24}, 11},
		{[]int{24, 5, 12}, 11},
		{[]int{-30, 3, 35, 60}, 0},
		{[]int{4, 10, 16, 22, 28}, 31},
		{[]int{9, 15, 21, 27, 34}, 31},
		{repeated(1000, 30), 16000},
		{repeated(1001, 30), -1},
		{repeated(1001, 0), -1},
		{repeated(5000, 30), -1},
	}
	for _, c := range cases {
		if got := impl.RiseAfter(c.degrees); got != c.want {
			t.Errorf("RiseAfter of %d minutes = %d, want %d", len(c.degrees), got, c.want)
		}
	}
	for _, d := range outside(-30, 60) {
		for _, degrees := range [][]int{{d}, {d, 24, 24}, {24, d, 24}, {24, 24, d}, {d, d}} {
			if got := impl.RiseAfter(degrees); got != -1 {
				t.Errorf("RiseAfter(%v) = %d, want -1", degrees, got)
			}
		}
	}
}

func TestMinutesAt(t *testing.T) {
	cases := []struct{ degrees, parts, want int }{
		{24, 100, 13}, {24, 96, 12}, {24, 97, 13}, {24, 1, 1}, {24, 0, 0}, {4, 0, 0}, {4, 10000, 10000}, {34, 10000, 625}, {34, 9999, 625}, {34, 9984, 624},
		{3, 0, -1}, {3, 100, -1}, {35, 0, -1}, {35, 100, -1}, {-30, 0, -1}, {60, 1, -1}, {-31, 0, -1}, {61, 0, -1},
	}
	for _, c := range cases {
		if got := impl.MinutesAt(c.degrees, c.parts); got != c.want {
			t.Errorf("MinutesAt(%d, %d) = %d, want %d", c.degrees, c.parts, got, c.want)
		}
	}
	for _, degrees := range outside(-30, 60) {
		if got := impl.MinutesAt(degrees, 100); got != -1 {
			t.Errorf("MinutesAt(%d, 100) = %d, want -1", degrees, got)
		}
	}
	for _, parts := range outside(0, 10000) {
		if got := impl.MinutesAt(24, parts); got != -1 {
			t.Errorf("MinutesAt(24, %d) = %d, want -1", parts, got)
		}
	}
}

// So many minutes are enough, and one less is not.
func TestMinutesAtIsTheLeast(t *testing.T) {
	for degrees := 4; degrees <= 34; degrees++ {
		for parts := 1; parts <= 10000; parts += 1 + parts/20 {
			n := impl.MinutesAt(degrees, parts)
			speed := speedByHand(degrees)
			if n*speed < parts || (n-1)*speed >= parts {
				t.Errorf("MinutesAt(%d, %d) = %d", degrees, parts, n)
			}
			if n <= 1000 && impl.ReadyAt(repeated(n, degrees), parts) != n-1 {
				t.Errorf("%d minutes of %d degrees are not ready for %d parts at the end", n, degrees, parts)
			}
		}
	}
}

func TestReadyAt(t *testing.T) {
	cases := []struct {
		degrees []int
		parts   int
		want    int
	}{
		{[]int{5, 12, 24}, 1, 0},
		{[]int{5, 12, 24}, 2, 1},
		{[]int{5, 12, 24}, 3, 1},
		{[]int{5, 12, 24}, 4, 2},
		{[]int{5, 12, 24}, 11, 2},
		{[]int{5, 12, 24}, 12, -1},
		{[]int{0, 40, 5, 0, 5}, 1, 2},
		{[]int{0, 40, 5, 0, 5}, 2, 4},
		{[]int{5}, 3, -1},
		{nil, 1, -1},
		{[]int{0, 0, 0}, 1, -1},
		{repeated(1000, 30), 10000, 624},
		{repeated(1000, 23), 8000, 999},
		{repeated(1000, 23), 8001, -1},
		{repeated(1001, 30), 1, -1},
	}
	for _, c := range cases {
		if got := impl.ReadyAt(c.degrees, c.parts); got != c.want {
			t.Errorf("ReadyAt of %d minutes for %d parts = %d, want %d", len(c.degrees), c.parts, got, c.want)
		}
	}
	for _, parts := range outside(1, 10000) {
		if got := impl.ReadyAt([]int{24, 24}, parts); got != -1 {
			t.Errorf("ReadyAt({24 24}, %d) = %d, want -1", parts, got)
		}
		if got := impl.ReadyAt(repeated(1000, 30), parts); got != -1 {
			t.Errorf("ReadyAt of 1000 warm minutes for %d parts = %d, want -1", parts, got)
		}
	}
	// A minute that is not valid counts even where it is not needed.
	for _, d := range outside(-30, 60) {
		for _, degrees := range [][]int{{d, 24}, {24, d}, {24, 24, 24, d}} {
			if got := impl.ReadyAt(degrees, 8); got != -1 {
				t.Errorf("ReadyAt(%v, 8) = %d, want -1", degrees, got)
			}
		}
	}
}

// Ready is when enough has risen, and not a minute before.
func TestReadyIsWhenEnoughHasRisen(t *testing.T) {
	var degrees []int
	for i := range 90 {
		degrees = append(degrees, (i*37)%91-30)
	}
	whole := impl.RiseAfter(degrees)
	for parts := 1; parts <= whole+5; parts++ {
		at := impl.ReadyAt(degrees, parts)
		if parts > whole {
			if at != -1 {
				t.Errorf("ReadyAt for %d parts = %d, want -1", parts, at)
			}
			continue
		}
		if at < 0 || impl.RiseAfter(degrees[:at+1]) < parts || impl.RiseAfter(degrees[:at]) >= parts {
			t.Errorf("ReadyAt for %d parts = %d", parts, at)
		}
	}
}

func TestCoolestFor(t *testing.T) {
	cases := []struct{ parts, minutes, want int }{
		{100, 30, 16}, {1000, 30, -1}, {0, 1, 4}, {0, 10000, 4}, {1, 1, 4}, {2, 1, 10}, {3, 1, 16}, {4, 1, 16}, {5, 1, 22},
		{8, 1, 22}, {9, 1, 28}, {16, 1, 28}, {17, 1, -1}, {10000, 10000, 4}, {10000, 9999, 10}, {10000, 625, 28}, {10000, 624, -1},
		{480, 30, 28}, {481, 30, -1}, {30, 30, 4}, {31, 30, 10},
	}
	for _, c := range cases {
		if got := impl.CoolestFor(c.parts, c.minutes); got != c.want {
			t.Errorf("CoolestFor(%d, %d) = %d, want %d", c.parts, c.minutes, got, c.want)
		}
	}
	for _, parts := range outside(0, 10000) {
		if got := impl.CoolestFor(parts, 100); got != -1 {
			t.Errorf("CoolestFor(%d, 100) = %d, want -1", parts, got)
		}
	}
	for _, minutes := range outside(1, 10000) {
		for _, parts := range []int{0, 100} {
			if got := impl.CoolestFor(parts, minutes); got != -1 {
				t.Errorf("CoolestFor(%d, %d) = %d, want -1", parts, minutes, got)
			}
		}
	}
}

func TestCoolestForByTrying(t *testing.T) {
	for parts := 0; parts <= 400; parts++ {
		for minutes := 1; minutes <= 60; minutes++ {
			want := -1
			for degrees := 34; degrees >= 4; degrees-- {
				if speedByHand(degrees)*minutes >= parts {
					want = degrees
				}
			}
			if got := impl.CoolestFor(parts, minutes); got != want {
				t.Errorf("CoolestFor(%d, %d) = %d, want %d", parts, minutes, got, want)
			}
		}
	}
}

func TestRisingChangesNothing(t *testing.T) {
	degrees := []int{24, 12, 5}
	list := withSpare(degrees, 77)
	impl.RiseAfter(list)
	impl.ReadyAt(list, 9)
	checkUntouched(t, list, slices.Clone(degrees), 77)
}
