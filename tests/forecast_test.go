package tests

import (
	"math/rand/v2"
	"slices"
	"testing"

	"loop.example/g03310/impl"
)

// salesLists are valid, with 7 to 140 days.
func salesLists() [][]int {
	lists := [][]int{
		repeated(7, 0), repeated(7, 10000), repeated(140, 10000), repeated(14, 3),
		{1, 2, 3, 4, 5, 9, 7, 3, 2}, {9, 2, 3, 4, 5, 9, 7}, {0, 0, 0, 0, 0, 0, 1}, {1, 2, 3, 4, 5, 6, 7, 2, 2, 3, 4, 5, 6, 7, 4},
	}
	r := rand.New(rand.NewPCG(14, 0))
	for n := 7; n <= 140; n++ {
		sales := make([]int, n)
		for i := range sales {
			sales[i] = r.IntN(4 + (n%4)*3332)
		}
		lists = append(lists, sales)
	}
	return lists
}

// badSalesLists have too few or too many days or one that is not in its range.
func badSalesLists() [][]int {
	lists := [][]int{nil, {1}, repeated(6, 5), repeated(141, 5), repeated(1000, 5)}
	for _, n := range outside(0, 10000) {
		first, last := repeated(14, 5), repeated(14, 5)
		first[0], last[13] = n, n
		lists = append(lists, first, last)
	}
	return lists
}

func TestSalesOk(t *testing.T) {
	for _, sales := range salesLists() {
		if !impl.SalesOk(sales) {
			t.Errorf("SalesOk(%v) = false", sales)
		}
	}
	for _, sales := range badSalesLists() {
		if impl.SalesOk(sales) || impl.IsGrowing(sales) {
			t.Errorf("SalesOk(%v) = %v, IsGrowing = %v", sales, impl.SalesOk(sales), impl.IsGrowing(sales))
		}
		for day := range 7 {
			if got := impl.MeanOf(sales, day); got != -1 {
				t.Errorf("MeanOf(%v, %d) = %d, want -1", sales, day, got)
			}
		}
		if a, b, c := impl.NextSales(sales), impl.BusiestDay(sales), impl.ErrorSum(sales); a != -1 || b != -1 || c != -1 {
			t.Errorf("NextSales, BusiestDay and ErrorSum of %v = %d, %d and %d; want -1", sales, a, b, c)
		}
	}
}

// salesOn returns the sales on a day of the week.
func salesOn(sales []int, day int) []int {
	var list []int
	for i, s := range sales {
		if i%7 == day {
			list = append(list, s)
		}
	}
	return list
}

func meanByHand(list []int) int {
	sum := 0
	for _, n := range list {
		sum += n
	}
	return sum / len(list)
}

// Means lie between the least and the greatest sales of their day.
func TestMeanOf(t *testing.T) {
	for _, sales := range salesLists() {
		for day := range 7 {
			list := salesOn(sales, day)
			got := impl.MeanOf(sales, day)
			if got != meanByHand(list) || got < slices.Min(list) || got > slices.Max(list) {
				t.Errorf("MeanOf(%v, %d) = %d, want %d", sales, day, got, meanByHand(list))
			}
		}
		for _, day := range outside(0, 6) {
			if got := impl.MeanOf(sales, day); got != -1 {
				t.Errorf("MeanOf(%v, %d) = %d, want -1", sales, day, got)
			}
		}
	}
}

func TestNextSales(t *testing.T) {
	for _, sales := range salesLists() {
		if got, want := impl.NextSales(sales), meanByHand(salesOn(sales, len(sales)%7)); got != want {
			t.Errorf("NextSales(%v) = %d, want %d", sales, got, want)
		}
	}
}

// After seven days, each mean is the sale of its day, and nothing was forecast.
func TestSevenDays(t *testing.T) {
	week := []int{5, 1, 9, 0, 9, 3, 2}
	for day, s := range week {
		if got := impl.MeanOf(week, day); got != s {
			t.Errorf("MeanOf(%v, %d) = %d, want %d", week, day, got, s)
		}
	}
	if a, b, c := impl.NextSales(week), impl.BusiestDay(week), impl.ErrorSum(week); a != 5 || b != 2 || c != 0 {
		t.Errorf("NextSales, BusiestDay and ErrorSum of %v = %d, %d and %d; want 5, 2 and 0", week, a, b, c)
	}
	if impl.IsGrowing(week) || impl.SalesOk(week[:6]) {
		t.Error("a week is growing, or six days are enough")
	}
	eight := append(slices.Clone(week), 8)
	if a, b, c := impl.NextSales(eight), impl.BusiestDay(eight), impl.ErrorSum(eight); a != 1 || b != 2 || c != 3 {
		t.Errorf("NextSales, BusiestDay and ErrorSum of %v = %d, %d and %d; want 1, 2 and 3", eight, a, b, c)
	}
}

func TestBusiestDay(t *testing.T) {
	cases := []struct {
		sales []int
		want  int
	}{
		{repeated(7, 0), 0}, {repeated(14, 3), 0}, {[]int{0, 0, 0, 0, 0, 0, 1}, 6}, {[]int{9, 2, 3, 4, 5, 9, 7}, 0}, {[]int{8, 2, 3, 4, 5, 9, 9}, 5}, {[]int{9, 2, 3, 4, 5, 8, 7, 0}, 5},
		// The mean is rounded down before it is compared.
		{[]int{4, 5, 0, 0, 0, 0, 0, 5, 4}, 0}, {[]int{4, 5, 0, 0, 0, 0, 0, 4, 4}, 0}, {[]int{4, 5, 0, 0, 0, 0, 0, 4, 5}, 1},
	}
	for _, c := range cases {
		if got := impl.BusiestDay(c.sales); got != c.want {
			t.Errorf("BusiestDay(%v) = %d, want %d", c.sales, got, c.want)
		}
	}
	for _, sales := range salesLists() {
		best := impl.BusiestDay(sales)
		for day := range 7 {
			if m, b := impl.MeanOf(sales, day), impl.MeanOf(sales, best); m > b || m == b && day < best {
				t.Errorf("BusiestDay(%v) = %d, but day %d has %d", sales, best, day, m)
			}
		}
	}
}

func TestErrorSum(t *testing.T) {
	for _, sales := range salesLists() {
		want := 0
		for i := 7; i < len(sales); i++ {
			forecast := meanByHand(salesOn(sales[:i], i%7))
			want += max(forecast-sales[i], sales[i]-forecast)
		}
		if got := impl.ErrorSum(sales); got != want {
			t.Errorf("ErrorSum(%v) = %d, want %d", sales, got, want)
		}
	}
	cases := []struct {
		sales []int
		want  int
	}{
		{[]int{1, 2, 3, 4, 5, 9, 7, 3, 2}, 2}, {[]int{5, 5, 5, 5, 5, 5, 5, 2, 9}, 7}, {append(repeated(7, 10000), repeated(7, 0)...), 70000}, {[]int{1, 0, 0, 0, 0, 0, 0, 2, 0, 0, 0, 0, 0, 0, 1}, 1},
	}
	for _, c := range cases {
		if got := impl.ErrorSum(c.sales); got != c.want {
			t.Errorf("ErrorSum(%v) = %d, want %d", c.sales, got, c.want)
		}
	}
}

func TestIsGrowing(t *testing.T) {
	cases := []struct {
		sales []int
		want  bool
	}{
		{repeated(14, 1), false}, {append(repeated(13, 1), 2), true}, {append([]int{2}, repeated(13, 1)...), false}, {append(repeated(12, 1), 2), false},
		{slices.Concat(repeated(7, 1), repeated(7, 2)), true}, {slices.Concat(repeated(7, 2), repeated(7, 1)), false}, {slices.Concat([]int{100}, repeated(7, 1), repeated(7, 2)), true},
		{slices.Concat(repeated(6, 1), repeated(7, 2)), false}, {slices.Concat(repeated(126, 9), repeated(7, 1), repeated(6, 1), []int{2}), true}, {[]int{1, 2, 3, 4, 5, 6, 7, 7, 6, 5, 4, 3, 2, 1}, false},
		{slices.Concat([]int{0, 5}, repeated(7, 5), repeated(6, 5)), false}, {slices.Concat([]int{9, 4}, repeated(6, 5), repeated(7, 5)), true},
	}
	for _, c := range cases {
		if got := impl.IsGrowing(c.sales); got != c.want {
			t.Errorf("IsGrowing(%v) = %v, want %v", c.sales, got, c.want)
		}
	}
}

func TestSalesAreNotChanged(t *testing.T) {
	sales := []int{1, 2, 3, 4, 5, 9, 7, 3, 2, 5, 5, 5, 5, 5, 5}
	given := withSpare(sales, 77)
	impl.MeanOf(given, 3)
	impl.NextSales(given)
	impl.BusiestDay(given)
	impl.ErrorSum(given)
	impl.IsGrowing(given)
	checkUntouched(t, given, sales, 77)
}
