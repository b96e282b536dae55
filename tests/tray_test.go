package tests

import (
	"slices"
	"testing"

	"loop.example/g03310/impl"
)

// rowsByPlacing puts loaf after loaf on a length.
func rowsByPlacing(length int, loaf int, gap int) int {
	rows := 0
	for begin := 0; begin+loaf <= length; begin += loaf + gap {
		rows++
	}
	return rows
}

func TestRowsFor(t *testing.T) {
	cases := []struct{ length, loaf, gap, want int }{
		{80, 20, 10, 3}, {79, 20, 10, 2}, {81, 20, 10, 3}, {109, 20, 10, 3}, {110, 20, 10, 4}, {80, 20, 0, 4}, {79, 20, 0, 3},
		{20, 20, 100, 1}, {19, 20, 100, 0}, {19, 20, 0, 0}, {1, 1, 0, 1}, {1, 1, 100, 1}, {1, 2, 0, 0}, {1, 500, 100, 0}, {499, 500, 100, 0}, {500, 500, 0, 1},
		{1000, 1, 0, 1000}, {1000, 1, 100, 10}, {1000, 500, 0, 2}, {1000, 500, 1, 1}, {1000, 500, 100, 1}, {999, 500, 0, 1},
	}
	for _, c := range cases {
		if got := impl.RowsFor(c.length, c.loaf, c.gap); got != c.want {
			t.Errorf("RowsFor(%d, %d, %d) = %d, want %d", c.length, c.loaf, c.gap, got, c.want)
		}
	}
	for _, n := range outside(1, 1000) {
		if got := impl.RowsFor(n, 20, 10); got != -1 {
			t.Errorf("RowsFor(%d, 20, 10) = %d, want -1", n, got)
		}
	}
	for _, n := range outside(1, 500) {
		if got := impl.RowsFor(80, n, 10); got != -1 {
			t.Errorf("RowsFor(80, %d, 10) = %d, want -1", n, got)
		}
	}
	for _, n := range outside(0, 100) {
		if got := impl.RowsFor(80, 20, n); got != -1 {
			t.Errorf("RowsFor(80, 20, %d) = %d, want -1", n, got)
		}
	}
}

// As many loaves stand side by side as fit, and one more does not.
func TestRowsAreAsManyAsFit(t *testing.T) {
	for length := 1; length <= 1000; length += 1 + length/30 {
		for loaf := 1; loaf <= 500; loaf += 1 + loaf/20 {
			for gap := 0; gap <= 100; gap += 1 + gap/4 {
				n := impl.RowsFor(length, loaf, gap)
				if n < 0 || n > 0 && n*loaf+(n-1)*gap > length || (n+1)*loaf+n*gap <= length {
					t.Errorf("RowsFor(%d, %d, %d) = %d", length, loaf, gap, n)
				}
				if n != rowsByPlacing(length, loaf, gap) {
					t.Errorf("RowsFor(%d, %d, %d) = %d, want %d", length, loaf, gap, n, rowsByPlacing(length, loaf, gap))
				}
			}
		}
	}
}

func TestOnTray(t *testing.T) {
	cases := []struct{ long, wide, a, b, gap, want int }{
		{60, 40, 12, 30, 0, 6}, {60, 40, 30, 12, 0, 6}, {40, 60, 12, 30, 0, 6}, {60, 40, 12, 40, 0, 5}, {60, 40, 40, 12, 0, 5}, {60, 40, 12, 41, 0, 3}, {60, 40, 41, 12, 0, 3},
		{60, 40, 20, 20, 0, 6}, {60, 40, 20, 20, 1, 2}, {60, 40, 19, 19, 1, 6}, {60, 40, 60, 40, 0, 1}, {60, 40, 40, 60, 100, 1}, {60, 40, 61, 1, 0, 0}, {60, 40, 1, 61, 0, 0},
		{60, 40, 41, 41, 0, 0}, {1, 1, 1, 1, 0, 1}, {1, 1, 1, 2, 0, 0}, {1000, 1000, 1, 1, 0, 1000000}, {1000, 1000, 1, 1, 100, 100}, {1000, 1, 500, 1, 0, 2}, {1, 1000, 500, 1, 0, 2},
	}
	for _, c := range cases {
		if got := impl.OnTray(c.long, c.wide, c.a, c.b, c.gap); got != c.want {
			t.Errorf("OnTray(%d, %d, %d, %d, %d) = %d, want %d", c.long, c.wide, c.a, c.b, c.gap, got, c.want)
		}
	}
}

// Loaves longer than the tray do not stand on it, in whatever direction.
func TestLoavesLongerThanTheTray(t *testing.T) {
	for _, side := range []int{1, 20, 100} {
		if got := impl.OnTray(60, 40, 61, side, 0); got != 0 {
			t.Errorf("OnTray(60, 40, 61, %d, 0) = %d, want 0", side, got)
		}
		if got := impl.OnTray(60, 40, side, 500, 0); got != 0 {
			t.Errorf("OnTray(60, 40, %d, 500, 0) = %d, want 0", side, got)
		}
		for _, loaves := range []int{0, 1, 13} {
			if got := impl.TraysFor(loaves, 60, 40, 61, side, 0); got != -1 {
				t.Errorf("TraysFor(%d, 60, 40, 61, %d, 0) = %d, want -1", loaves, side, got)
			}
		}
	}
	for _, gap := range []int{0, 1, 100} {
		if got := impl.PlacesOf(60, 61, gap); len(got) != 0 {
			t.Errorf("PlacesOf(60, 61, %d) = %v, want none", gap, got)
		}
		if got := impl.RowsFor(60, 61, gap); got != 0 {
			t.Errorf("RowsFor(60, 61, %d) = %d, want 0", gap, got)
		}
	}
	if a, b, c := impl.WidestGap(60, 61, 1), impl.WidestGap(60, 61, 2), impl.WidestGap(60, 61, 0); a != -1 || b != -1 || c != 100 {
		t.Errorf("WidestGap of 1, 2 and 0 loaves that are too long = %d, %d and %d; want -1, -1 and 100", a, b, c)
	}
}

func TestOnTrayByPlacing(t *testing.T) {
	for _, long := range []int{1, 40, 60, 61, 997} {
		for _, wide := range []int{1, 30, 40, 500} {
			for a := 1; a <= 70; a += 3 {
				for b := 1; b <= 70; b += 4 {
					for _, gap := range []int{0, 1, 5, 100} {
						want := max(rowsByPlacing(long, a, gap)*rowsByPlacing(wide, b, gap), rowsByPlacing(long, b, gap)*rowsByPlacing(wide, a, gap))
						if got := impl.OnTray(long, wide, a, b, gap); got != want {
							t.Errorf("OnTray(%d, %d, %d, %d, %d) = %d, want %d", long, wide, a, b, gap, got, want)
						}
						checkTrays(t, long, wide, a, b, gap, want)
					}
				}
			}
		}
	}
}

// checkTrays checks that so many trays are enough, and that one less is not.
func checkTrays(t *testing.T, long, wide, a, b, gap, onTray int) {
	t.Helper()
	for _, loaves := range []int{0, 1, onTray, onTray + 1, 5 * onTray, 5*onTray + 1, 10000} {
		if loaves > 10000 {
			continue
		}
		n := impl.TraysFor(loaves, long, wide, a, b, gap)
		if onTray == 0 {
			if n != -1 {
				t.Errorf("TraysFor(%d, %d, %d, %d, %d, %d) = %d, want -1", loaves, long, wide, a, b, gap, n)
			}
			continue
		}
		if n < 0 || n*onTray < loaves || n > 0 && (n-1)*onTray >= loaves {
			t.Errorf("TraysFor(%d, %d, %d, %d, %d, %d) = %d with %d on each", loaves, long, wide, a, b, gap, n, onTray)
		}
	}
}

func TestTraysReject(t *testing.T) {
	check := func(long, wide, a, b, gap int) {
		t.Helper()
		if got := impl.OnTray(long, wide, a, b, gap); got != -1 {
			t.Errorf("OnTray(%d, %d, %d, %d, %d) = %d, want -1", long, wide, a, b, gap, got)
		}
		for _, loaves := range []int{0, 13} {
			if got := impl.TraysFor(loaves, long, wide, a, b, gap); got != -1 {
				t.Errorf("TraysFor(%d, %d, %d, %d, %d, %d) = %d, want -1", loaves, long, wide, a, b, gap, got)
			}
		}
	}
	for _, n := range outside(1, 1000) {
		check(n, 40, 12, 30, 0)
		check(60, n, 12, 30, 0)
		check(n, n, 12, 30, 0)
		check(n, 40, 61, 61, 0)
		check(60, n, 61, 61, 0)
	}
	for _, n := range outside(1, 500) {
		check(60, 40, n, 30, 0)
		check(60, 40, 12, n, 0)
		check(60, 40, n, n, 0)
		check(60, 40, n, 61, 0)
		check(60, 40, 61, n, 0)
	}
	for _, n := range outside(0, 100) {
		check(60, 40, 12, 30, n)
	}
	for _, loaves := range outside(0, 10000) {
		if got := impl.TraysFor(loaves, 60, 40, 12, 30, 0); got != -1 {
			t.Errorf("TraysFor(%d, 60, 40, 12, 30, 0) = %d, want -1", loaves, got)
		}
	}
}

func TestTraysFor(t *testing.T) {
	cases := []struct{ loaves, want int }{{0, 0}, {1, 1}, {5, 1}, {6, 1}, {7, 2}, {12, 2}, {13, 3}, {9996, 1666}, {10000, 1667}}
	for _, c := range cases {
		if got := impl.TraysFor(c.loaves, 60, 40, 12, 30, 0); got != c.want {
			t.Errorf("TraysFor(%d, 60, 40, 12, 30, 0) = %d, want %d", c.loaves, got, c.want)
		}
	}
}

func TestWidestGap(t *testing.T) {
	cases := []struct{ long, loaf, loaves, want int }{
		{80, 20, 3, 10}, {80, 20, 4, 0}, {80, 20, 5, -1}, {80, 20, 2, 40}, {80, 20, 1, 100}, {80, 20, 0, 100}, {79, 20, 3, 9}, {78, 20, 3, 9}, {77, 20, 3, 8}, {81, 20, 3, 10}, {82, 20, 3, 11},
		{20, 20, 1, 100}, {19, 20, 1, -1}, {19, 20, 0, 100}, {140, 20, 2, 100}, {139, 20, 2, 99}, {141, 20, 2, 100}, {1000, 20, 2, 100},
		{1000, 1, 1000, 0}, {999, 1, 1000, -1}, {1000, 1, 999, 0}, {1000, 1, 500, 1}, {1000, 500, 2, 0}, {1000, 500, 3, -1}, {1, 500, 1000, -1},
	}
	for _, c := range cases {
		if got := impl.WidestGap(c.long, c.loaf, c.loaves); got != c.want {
			t.Errorf("WidestGap(%d, %d, %d) = %d, want %d", c.long, c.loaf, c.loaves, got, c.want)
		}
	}
	for _, n := range outside(1, 1000) {
		for _, loaves := range []int{0, 3} {
			if got := impl.WidestGap(n, 20, loaves); got != -1 {
				t.Errorf("WidestGap(%d, 20, %d) = %d, want -1", n, loaves, got)
			}
		}
	}
	for _, n := range outside(1, 500) {
		for _, loaves := range []int{0, 3} {
			if got := impl.WidestGap(80, n, loaves); got != -1 {
				t.Errorf("WidestGap(80, %d, %d) = %d, want -1", n, loaves, got)
			}
		}
	}
	for _, n := range outside(0, 1000) {
		if got := impl.WidestGap(80, 20, n); got != -1 {
			t.Errorf("WidestGap(80, 20, %d) = %d, want -1", n, got)
		}
	}
}

// So many loaves stand with the widest gap, and not with a wider one.
func TestWidestGapByPlacing(t *testing.T) {
	for long := 1; long <= 1000; long += 1 + long/15 {
		for loaf := 1; loaf <= 500; loaf += 1 + loaf/5 {
			for loaves := range 12 {
				want := -1
				for gap := range 101 {
					if rowsByPlacing(long, loaf, gap) >= loaves {
						want = gap
					}
				}
				if got := impl.WidestGap(long, loaf, loaves); got != want {
					t.Errorf("WidestGap(%d, %d, %d) = %d, want %d", long, loaf, loaves, got, want)
				}
			}
		}
	}
}

func TestPlacesOf(t *testing.T) {
	cases := []struct {
		length, loaf, gap int
		want              []int
	}{
		{80, 20, 10, []int{0, 30, 60}}, {79, 20, 10, []int{0, 30}}, {80, 20, 0, []int{0, 20, 40, 60}}, {20, 20, 100, []int{0}}, {19, 20, 0, nil},
		{1, 1, 0, []int{0}}, {1000, 500, 0, []int{0, 500}}, {1000, 1, 100, []int{0, 101, 202, 303, 404, 505, 606, 707, 808, 909}},
	}
	for _, c := range cases {
		if got := impl.PlacesOf(c.length, c.loaf, c.gap); !slices.Equal(got, c.want) {
			t.Errorf("PlacesOf(%d, %d, %d) = %v, want %v", c.length, c.loaf, c.gap, got, c.want)
		}
	}
	for _, n := range outside(1, 1000) {
		if got := impl.PlacesOf(n, 20, 10); got != nil {
			t.Errorf("PlacesOf(%d, 20, 10) = %v, want nil", n, got)
		}
	}
	for _, n := range outside(1, 500) {
		if got := impl.PlacesOf(80, n, 10); got != nil {
			t.Errorf("PlacesOf(80, %d, 10) = %v, want nil", n, got)
		}
	}
	for _, n := range outside(0, 100) {
		if got := impl.PlacesOf(80, 20, n); got != nil {
			t.Errorf("PlacesOf(80, 20, %d) = %v, want nil", n, got)
		}
	}
}

func TestPlacesAreThoseOfTheRows(t *testing.T) {
	for length := 1; length <= 1000; length += 17 {
		for loaf := 1; loaf <= 500; loaf += 23 {
			for _, gap := range []int{0, 1, 33, 100} {
				places := impl.PlacesOf(length, loaf, gap)
				if len(places) != impl.RowsFor(length, loaf, gap) {
					t.Errorf("PlacesOf(%d, %d, %d) are %d", length, loaf, gap, len(places))
				}
				for i, p := range places {
					if p != i*(loaf+gap) || p+loaf > length {
						t.Errorf("PlacesOf(%d, %d, %d) = %v", length, loaf, gap, places)
					}
				}
			}
		}
	}
}
