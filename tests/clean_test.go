package tests

import (
	"math/rand/v2"
	"slices"
	"testing"

	"loop.example/g03310/impl"
)

// doughLists are valid, with equal doughs, chains and doughs that have nothing
// in common.
func doughLists() [][]int {
	lists := [][]int{
		nil, {0}, {255}, {3, 0, 1}, {1, 2}, {1, 1}, {5, 5, 5, 5}, {1, 2, 1, 2}, {2, 1, 2, 1}, {0, 0}, {0, 255, 0, 255}, {255, 127, 63, 31, 15}, {1, 3, 7, 15}, {7, 1, 6, 0}, {1, 2, 4, 8}, {3, 5, 6, 7, 0}, {6, 3, 12, 14, 7, 2},
	}
	r := rand.New(rand.NewPCG(16, 0))
	for n := range 120 {
		doughs := make([]int, n%6+1)
		for i := range doughs {
			doughs[i] = r.IntN(256) & r.IntN(256) >> (n % 7)
		}
		lists = append(lists, doughs)
	}
	return lists
}

// badDoughLists have too many doughs or one that is not in its range.
func badDoughLists() [][]int {
	lists := [][]int{repeated(9, 0), repeated(9, 5), repeated(40, 0)}
	for _, n := range outside(0, 255) {
		lists = append(lists, []int{n}, []int{n, 0}, []int{1, 3, n})
	}
	return lists
}

// thingsIn returns the powers of 2 of a dough.
func thingsIn(dough int) []int {
	var things []int
	for _, thing := range []int{1, 2, 4, 8, 16, 32, 64, 128} {
		if dough/thing%2 == 1 {
			things = append(things, thing)
		}
	}
	return things
}

func isIn(part int, whole int) bool {
	for _, thing := range thingsIn(part) {
		if !slices.Contains(thingsIn(whole), thing) {
			return false
		}
	}
	return true
}

func cleanByHand(before int, after int) int {
	if isIn(before, after) {
		return 0
	}
	return 5 + len(thingsIn(before))
}

func TestCleanCost(t *testing.T) {
	cases := []struct{ before, after, want int }{
		{3, 7, 0}, {7, 3, 8}, {0, 0, 0}, {0, 255, 0}, {255, 0, 13}, {255, 255, 0}, {255, 254, 13}, {1, 2, 6}, {1, 1, 0}, {128, 127, 6}, {128, 128, 0}, {1, 0, 6},
	}
	for _, c := range cases {
		if got := impl.CleanCost(c.before, c.after); got != c.want {
			t.Errorf("CleanCost(%d, %d) = %d, want %d", c.before, c.after, got, c.want)
		}
	}
	for before := range 256 {
		for after := 0; after < 256; after += 1 + before%5 {
			if got, want := impl.CleanCost(before, after), cleanByHand(before, after); got != want {
				t.Errorf("CleanCost(%d, %d) = %d, want %d", before, after, got, want)
			}
		}
	}
	for _, n := range outside(0, 255) {
		for _, m := range []int{0, 7, 255, n} {
			if a, b := impl.CleanCost(n, m), impl.CleanCost(m, n); a != -1 || b != -1 {
				t.Errorf("CleanCost with %d = %d and %d, want -1", n, a, b)
			}
		}
	}
}

// dayByHand adds the costs of cleaning of an order.
func dayByHand(doughs []int, order []int) int {
	cost := 0
	for k, i := range order {
		if k > 0 {
			cost += cleanByHand(doughs[order[k-1]], doughs[i])
		}
	}
	return cost
}

func TestDayCost(t *testing.T) {
	cases := []struct {
		doughs, order []int
		want          int
	}{
		{[]int{3, 0, 1}, []int{0, 1, 2}, 7}, {[]int{3, 0, 1}, []int{1, 2, 0}, 0}, {[]int{3, 0, 1}, []int{0, 2, 1}, 13}, {nil, nil, 0}, {[]int{255}, []int{0}, 0}, {repeated(8, 255), []int{7, 6, 5, 4, 3, 2, 1, 0}, 0},
	}
	for _, c := range cases {
		if got := impl.DayCost(c.doughs, c.order); got != c.want {
			t.Errorf("DayCost(%v, %v) = %d, want %d", c.doughs, c.order, got, c.want)
		}
	}
	for _, doughs := range doughLists() {
		if len(doughs) > 4 {
			continue
		}
		for _, order := range ordersOf(len(doughs)) {
			if got, want := impl.DayCost(doughs, order), dayByHand(doughs, order); got != want {
				t.Errorf("DayCost(%v, %v) = %d, want %d", doughs, order, got, want)
			}
		}
	}
}

func TestDayCostRejects(t *testing.T) {
	doughs := []int{3, 0, 1}
	bad := [][]int{nil, {0}, {0, 1}, {0, 0, 1}, {0, 1, 1}, {0, 0, 0}, {0, 1, 2, 0}, {0, 1, 2, 3}, {0, 1, 3}, {-1, 0, 1}, {0, 1, -1}, {0, 1, 2, -1}}
	for _, n := range farOut {
		bad = append(bad, []int{n, 1, 2}, []int{0, n, 2}, []int{0, 1, n})
	}
	for _, order := range bad {
		if got := impl.DayCost(doughs, order); got != -1 {
			t.Errorf("DayCost(%v, %v) = %d, want -1", doughs, order, got)
		}
	}
	for _, order := range [][]int{{0}, {-1}, {0, 0}} {
		if got := impl.DayCost(nil, order); got != -1 {
			t.Errorf("DayCost(nil, %v) = %d, want -1", order, got)
		}
	}
	for _, list := range badDoughLists() {
		order := make([]int, len(list))
		for i := range order {
			order[i] = i
		}
		if got := impl.DayCost(list, order); got != -1 {
			t.Errorf("DayCost(%v, %v) = %d, want -1", list, order, got)
		}
		if got, ok := impl.BestDay(list); ok || got != nil {
			t.Errorf("BestDay(%v) = %v, %v; want nil, false", list, got, ok)
		}
		if impl.NeedsNoCleaning(list) {
			t.Errorf("NeedsNoCleaning(%v) = true", list)
		}
	}
}

// cheapestDay tries all orders.
func cheapestDay(doughs []int) []int {
	var best []int
	least := -1
	for _, order := range ordersOf(len(doughs)) {
		if cost := dayByHand(doughs, order); least < 0 || cost < least {
			best, least = order, cost
		}
	}
	return best
}

// No order of doughs is cleaned more cheaply, and of several ones the best one
// is the first.
func TestBestDayByTrying(t *testing.T) {
	for _, doughs := range doughLists() {
		want := cheapestDay(doughs)
		if got, ok := impl.BestDay(doughs); !ok || !slices.Equal(got, want) {
			t.Errorf("BestDay(%v) = %v, %v; want %v, true", doughs, got, ok, want)
		}
	}
	eight := []int{9, 3, 1, 9, 12, 3, 6, 0}
	if got, ok := impl.BestDay(eight); !ok || !slices.Equal(got, cheapestDay(eight)) {
		t.Errorf("BestDay(%v) = %v, %v; want %v, true", eight, got, ok, cheapestDay(eight))
	}
}

// Equal doughs need no cleaning between them, and the one with the lesser index
// comes first.
func TestEqualDoughs(t *testing.T) {
	for n := range 9 {
		for _, dough := range []int{0, 1, 6, 255} {
			doughs := repeated(n, dough)
			order := make([]int, n)
			for i := range order {
				order[i] = i
			}
			if got, ok := impl.BestDay(doughs); !ok || !slices.Equal(got, order) || impl.DayCost(doughs, order) != 0 || !impl.NeedsNoCleaning(doughs) {
				t.Errorf("BestDay(%v) = %v, %v", doughs, got, ok)
			}
		}
	}
	for code := range 256 {
		doughs := []int{code & 3, code >> 2 & 3, code >> 4 & 3, code >> 6}
		if got, ok := impl.BestDay(doughs); !ok || !slices.Equal(got, cheapestDay(doughs)) {
			t.Errorf("BestDay(%v) = %v, %v; want %v, true", doughs, got, ok, cheapestDay(doughs))
		}
	}
}

// A chain needs no cleaning, and what needs none is a chain.
func TestNeedsNoCleaning(t *testing.T) {
	cases := []struct {
		doughs []int
		want   bool
	}{
		{nil, true}, {[]int{255}, true}, {[]int{3, 0, 1}, true}, {[]int{1, 2}, false}, {[]int{2, 1}, false}, {[]int{1, 1}, true}, {[]int{7, 1, 6, 0}, false}, {[]int{1, 3, 7, 15, 31, 63, 127, 255}, true}, {[]int{255, 127, 63, 31, 15, 7, 3, 4}, false}, {repeated(8, 255), true},
		{[]int{3, 1, 7, 2}, false}, {[]int{3, 1, 7, 1}, true}, {[]int{1, 2, 3}, false}, {[]int{3, 2, 1}, false}, {[]int{1, 3, 2}, false},
	}
	for _, c := range cases {
		if got := impl.NeedsNoCleaning(c.doughs); got != c.want {
			t.Errorf("NeedsNoCleaning(%v) = %v", c.doughs, got)
		}
	}
	for _, doughs := range doughLists() {
		order, _ := impl.BestDay(doughs)
		if got, cost := impl.NeedsNoCleaning(doughs), impl.DayCost(doughs, order); got != (cost == 0) {
			t.Errorf("NeedsNoCleaning(%v) = %v, but the best day costs %d", doughs, got, cost)
		}
	}
}

func TestTracesAfter(t *testing.T) {
	cases := []struct {
		doughs  []int
		cleaned []bool
		want    []int
	}{
		{nil, nil, nil},
		{[]int{1, 2, 4}, []bool{false, false, true}, []int{1, 3, 4}},
		{[]int{1, 2, 4}, []bool{false, false, false}, []int{1, 3, 7}},
		{[]int{1, 2, 4}, []bool{true, true, true}, []int{1, 2, 4}},
		{[]int{1, 2, 4}, []bool{true, false, false}, []int{1, 3, 7}},
		{[]int{1, 2, 4, 0, 8}, []bool{false, true, false, false, false}, []int{1, 2, 6, 6, 14}},
		{[]int{255, 0, 0}, []bool{false, false, true}, []int{255, 255, 0}},
		{[]int{5, 5, 5}, []bool{false, true, false}, []int{5, 5, 5}},
		{repeated(40, 255), repeated(40, false), repeated(40, 255)},
	}
	for _, c := range cases {
		if got := impl.TracesAfter(c.doughs, c.cleaned); !slices.Equal(got, c.want) {
			t.Errorf("TracesAfter(%v, %v) = %v, want %v", c.doughs, c.cleaned, got, c.want)
		}
	}
	bad := []struct {
		doughs  []int
		cleaned []bool
	}{
		{repeated(41, 1), repeated(41, false)}, {[]int{1, 2}, []bool{false}}, {[]int{1, 2}, []bool{false, true, false}}, {[]int{1}, nil}, {nil, []bool{true}}, {repeated(40, 1), repeated(39, true)},
	}
	for _, n := range outside(0, 255) {
		for _, doughs := range [][]int{{n}, {n, 1}, {1, 2, n}} {
			bad = append(bad, struct {
				doughs  []int
				cleaned []bool
			}{doughs, repeated(len(doughs), true)})
		}
	}
	for _, c := range bad {
		if got := impl.TracesAfter(c.doughs, c.cleaned); got != nil {
			t.Errorf("TracesAfter(%v, %v) = %v, want nil", c.doughs, c.cleaned, got)
		}
	}
}

// In each dough is exactly what came in since the machine was cleaned.
func TestTracesByHand(t *testing.T) {
	r := rand.New(rand.NewPCG(16, 1))
	for n := range 100 {
		doughs, cleaned := make([]int, n%41), make([]bool, n%41)
		for i := range doughs {
			doughs[i], cleaned[i] = r.IntN(256)&r.IntN(256)&r.IntN(256), r.IntN(4) == 0
		}
		traces := impl.TracesAfter(doughs, cleaned)
		for i, trace := range traces {
			var things []int
			for k := i; k >= 0; k-- {
				things = append(things, thingsIn(doughs[k])...)
				if cleaned[k] {
					break
				}
			}
			slices.Sort(things)
			if !slices.Equal(thingsIn(trace), slices.Compact(things)) {
				t.Errorf("TracesAfter(%v, %v) = %v", doughs, cleaned, traces)
			}
		}
		if len(traces) != len(doughs) {
			t.Errorf("TracesAfter(%v, %v) = %v", doughs, cleaned, traces)
		}
	}
}

func TestDoughsAreNotChanged(t *testing.T) {
	doughs, order, cleaned := []int{3, 0, 1}, []int{2, 0, 1}, []bool{false, true, false}
	d, o, c := withSpare(doughs, 77), withSpare(order, 77), withSpare(cleaned, true)
	impl.DayCost(d, o)
	best, _ := impl.BestDay(d)
	clear(best)
	impl.NeedsNoCleaning(d)
	clear(impl.TracesAfter(d, c))
	checkUntouched(t, d, doughs, 77)
	checkUntouched(t, o, order, 77)
	checkUntouched(t, c, cleaned, true)
}
