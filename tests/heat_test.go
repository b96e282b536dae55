package tests

import (
	"slices"
	"testing"

	"loop.example/g03310/impl"
)

// heatLists are valid, with equal heats and up to as many as there may be.
func heatLists() [][]int {
	return [][]int{
		nil, {0}, {350}, {200, 250, 180}, {200, 200}, {200, 200, 200, 200}, {180, 220, 180, 220, 200}, {220, 180, 220, 180},
		{0, 350, 0, 350}, {100, 101, 99, 100}, {350, 0, 175, 80, 260}, {250, 200, 250, 180, 200, 220}, {1, 2, 3, 4, 5, 6}, {6, 5, 4, 3, 2, 1},
	}
}

// badHeatLists have too many heats or one that is not in its range.
func badHeatLists() [][]int {
	lists := [][]int{repeated(9, 200), repeated(20, 200)}
	for _, n := range outside(0, 350) {
		lists = append(lists, []int{n}, []int{n, 200}, []int{200, 180, n})
	}
	return lists
}

// ordersOf returns all orders of n indices, in lexicographic order.
func ordersOf(n int) [][]int {
	orders := [][]int{{}}
	for range n {
		var longer [][]int
		for _, o := range orders {
			for i := range n {
				if !slices.Contains(o, i) {
					longer = append(longer, append(slices.Clone(o), i))
				}
			}
		}
		orders = longer
	}
	return orders
}

// costByHand adds 2 for each degree up and 1 for each degree down.
func costByHand(heats []int, order []int, start int) int {
	cost := 0
	for _, i := range order {
		for ; start < heats[i]; start++ {
			cost += 2
		}
		for ; start > heats[i]; start-- {
			cost++
		}
	}
	return cost
}

func TestHeatCost(t *testing.T) {
	cases := []struct{ from, to, want int }{
		{100, 130, 60}, {130, 100, 30}, {200, 200, 0}, {0, 0, 0}, {350, 350, 0}, {0, 350, 700}, {350, 0, 350}, {0, 1, 2}, {1, 0, 1}, {349, 350, 2},
	}
	for _, c := range cases {
		if got := impl.HeatCost(c.from, c.to); got != c.want {
			t.Errorf("HeatCost(%d, %d) = %d, want %d", c.from, c.to, got, c.want)
		}
	}
	for _, n := range outside(0, 350) {
		if a, b, c := impl.HeatCost(n, 200), impl.HeatCost(200, n), impl.HeatCost(n, n); a != -1 || b != -1 || c != -1 {
			t.Errorf("HeatCost with %d = %d, %d and %d; want -1", n, a, b, c)
		}
	}
}

func TestOrderCost(t *testing.T) {
	heats := []int{200, 250, 180}
	cases := []struct {
		heats, order []int
		start        int
		want         int
	}{
		{heats, []int{0, 1, 2}, 240, 210}, {heats, []int{1, 0, 2}, 240, 90}, {heats, []int{2, 0, 1}, 240, 200}, {heats, []int{2, 1, 0}, 240, 250},
		{heats, []int{1, 0, 2}, 0, 570}, {heats, []int{1, 0, 2}, 350, 170},
		{nil, nil, 0, 0}, {nil, []int{}, 350, 0}, {[]int{200}, []int{0}, 200, 0}, {[]int{0}, []int{0}, 350, 350},
		{repeated(8, 200), []int{7, 6, 5, 4, 3, 2, 1, 0}, 100, 200},
		{[]int{0, 350, 0, 350, 0, 350, 0, 350}, []int{0, 1, 2, 3, 4, 5, 6, 7}, 350, 4*350 + 4*700},
	}
	for _, c := range cases {
		if got := impl.OrderCost(c.heats, c.order, c.start); got != c.want {
			t.Errorf("OrderCost(%v, %v, %d) = %d, want %d", c.heats, c.order, c.start, got, c.want)
		}
	}
}

func TestOrderCostRejects(t *testing.T) {
	heats := []int{200, 250, 180}
	bad := [][]int{
		nil, {0}, {0, 1}, {1, 2}, {0, 0, 1}, {0, 1, 1}, {2, 1, 2}, {0, 0, 0}, {0, 1, 2, 0}, {0, 1, 2, 3}, {0, 1, 2, 2},
		{0, 1, 3}, {1, 2, 3}, {-1, 0, 1}, {0, 1, -1}, {0, 1, 2, -1},
	}
	for _, n := range farOut {
		bad = append(bad, []int{n, 1, 2}, []int{0, n, 2}, []int{0, 1, n})
	}
	for _, order := range bad {
		if got := impl.OrderCost(heats, order, 240); got != -1 {
			t.Errorf("OrderCost(%v, %v, 240) = %d, want -1", heats, order, got)
		}
	}
	for _, order := range [][]int{{0}, {-1}, {0, 0}} {
		if got := impl.OrderCost(nil, order, 240); got != -1 {
			t.Errorf("OrderCost(nil, %v, 240) = %d, want -1", order, got)
		}
	}
	for _, list := range badHeatLists() {
		order := make([]int, len(list))
		for i := range order {
			order[i] = i
		}
		if got := impl.OrderCost(list, order, 240); got != -1 {
			t.Errorf("OrderCost(%v, %v, 240) = %d, want -1", list, order, got)
		}
	}
	for _, start := range outside(0, 350) {
		if got := impl.OrderCost(heats, []int{0, 1, 2}, start); got != -1 {
			t.Errorf("OrderCost(%v, {0 1 2}, %d) = %d, want -1", heats, start, got)
		}
		if got := impl.OrderCost(nil, nil, start); got != -1 {
			t.Errorf("OrderCost(nil, nil, %d) = %d, want -1", start, got)
		}
	}
}

func TestOrderCostOfAllOrders(t *testing.T) {
	for _, heats := range heatLists() {
		for _, order := range ordersOf(len(heats)) {
			for _, start := range []int{0, 190, 350} {
				if got, want := impl.OrderCost(heats, order, start), costByHand(heats, order, start); got != want {
					t.Errorf("OrderCost(%v, %v, %d) = %d, want %d", heats, order, start, got, want)
				}
			}
		}
	}
}

func TestFallingOrder(t *testing.T) {
	cases := []struct{ heats, want []int }{
		{nil, nil}, {[]int{200}, []int{0}}, {[]int{200, 250, 180}, []int{1, 0, 2}}, {[]int{200, 200, 200}, []int{0, 1, 2}},
		{[]int{180, 220, 180, 220, 200}, []int{1, 3, 4, 0, 2}}, {[]int{0, 350, 0, 350}, []int{1, 3, 0, 2}},
		{[]int{1, 2, 3, 4, 5, 6, 7, 8}, []int{7, 6, 5, 4, 3, 2, 1, 0}}, {repeated(8, 350), []int{0, 1, 2, 3, 4, 5, 6, 7}},
		{[]int{5, 9, 5, 9, 5, 9, 5, 9}, []int{1, 3, 5, 7, 0, 2, 4, 6}},
	}
	for _, c := range cases {
		if got := impl.FallingOrder(c.heats); !slices.Equal(got, c.want) {
			t.Errorf("FallingOrder(%v) = %v, want %v", c.heats, got, c.want)
		}
	}
	for _, heats := range badHeatLists() {
		if got := impl.FallingOrder(heats); got != nil {
			t.Errorf("FallingOrder(%v) = %v, want nil", heats, got)
		}
	}
}

// What falls costs least from above: no order costs less than the falling one
// if the oven is at least as hot as all heats.
func TestFallingCostsLeastFromAbove(t *testing.T) {
	for _, heats := range heatLists() {
		for _, start := range []int{350, slices.Max(append([]int{0}, heats...))} {
			best, ok := impl.BestHeats(heats, start)
			falling := impl.OrderCost(heats, impl.FallingOrder(heats), start)
			if !ok || falling < 0 || falling != impl.OrderCost(heats, best, start) {
				t.Errorf("from %d, the falling order of %v costs %d, and the best one %d", start, heats, falling, impl.OrderCost(heats, best, start))
			}
			if len(heats) > 0 && falling != start-slices.Min(heats) {
				t.Errorf("from %d, the falling order of %v costs %d", start, heats, falling)
			}
		}
	}
}

func TestBestHeats(t *testing.T) {
	cases := []struct {
		heats []int
		start int
		want  []int
	}{
		{nil, 0, nil}, {[]int{}, 350, nil}, {[]int{200}, 0, []int{0}},
		{[]int{200, 250, 180}, 240, []int{1, 0, 2}}, {[]int{200, 250, 180}, 0, []int{2, 0, 1}}, {[]int{200, 250, 180}, 190, []int{2, 0, 1}},
		{repeated(8, 200), 200, []int{0, 1, 2, 3, 4, 5, 6, 7}}, {repeated(8, 200), 0, []int{0, 1, 2, 3, 4, 5, 6, 7}},
		{[]int{220, 180, 220, 180}, 0, []int{1, 3, 0, 2}}, {[]int{220, 180, 220, 180}, 350, []int{0, 2, 1, 3}},
		{[]int{8, 7, 6, 5, 4, 3, 2, 1}, 0, []int{7, 6, 5, 4, 3, 2, 1, 0}}, {[]int{8, 7, 6, 5, 4, 3, 2, 1}, 350, []int{0, 1, 2, 3, 4, 5, 6, 7}},
		// Up first costs 200 and 200, and down first 100 and 400.
		{[]int{100, 300}, 200, []int{1, 0}},
		{[]int{200, 300}, 200, []int{0, 1}}, {[]int{100, 200, 300}, 200, []int{1, 2, 0}},
	}
	for _, c := range cases {
		got, ok := impl.BestHeats(c.heats, c.start)
		if !ok || !slices.Equal(got, c.want) {
			t.Errorf("BestHeats(%v, %d) = %v, %v; want %v, true", c.heats, c.start, got, ok, c.want)
		}
	}
	for _, heats := range badHeatLists() {
		if got, ok := impl.BestHeats(heats, 200); ok || got != nil {
			t.Errorf("BestHeats(%v, 200) = %v, %v; want nil, false", heats, got, ok)
		}
	}
	for _, start := range outside(0, 350) {
		for _, heats := range [][]int{nil, {200, 250, 180}} {
			if got, ok := impl.BestHeats(heats, start); ok || got != nil {
				t.Errorf("BestHeats(%v, %d) = %v, %v; want nil, false", heats, start, got, ok)
			}
		}
	}
}

// firstBest tries all orders.
func firstBest(heats []int, start int) []int {
	var best []int
	least := -1
	for _, order := range ordersOf(len(heats)) {
		if cost := costByHand(heats, order, start); least < 0 || cost < least {
			best, least = order, cost
		}
	}
	return best
}

// No order costs less than the best one, and of several ones it is the first.
func TestBestHeatsByTrying(t *testing.T) {
	for _, heats := range heatLists() {
		for _, start := range []int{0, 1, 100, 180, 190, 200, 215, 220, 350} {
			want := firstBest(heats, start)
			got, ok := impl.BestHeats(heats, start)
			if !ok || !slices.Equal(got, want) {
				t.Errorf("BestHeats(%v, %d) = %v, %v; want %v, true", heats, start, got, ok, want)
			}
		}
	}
	eight := []int{210, 250, 180, 250, 230, 180, 210, 90}
	if got, ok := impl.BestHeats(eight, 200); !ok || !slices.Equal(got, firstBest(eight, 200)) {
		t.Errorf("BestHeats(%v, 200) = %v, %v; want %v, true", eight, got, ok, firstBest(eight, 200))
	}
}

// With equal heats, the one with the lesser index comes first wherever the
// cost is the same.
func TestBestHeatsOfEqualHeats(t *testing.T) {
	values := []int{100, 200, 300}
	for code := range 243 {
		heats := make([]int, 5)
		for i := range heats {
			heats[i] = values[code%3]
			code /= 3
		}
		for _, start := range []int{100, 150, 200, 233, 300} {
			got, ok := impl.BestHeats(heats, start)
			if want := firstBest(heats, start); !ok || !slices.Equal(got, want) {
				t.Errorf("BestHeats(%v, %d) = %v, %v; want %v, true", heats, start, got, ok, want)
			}
		}
	}
}

func TestCoolAfter(t *testing.T) {
	cases := []struct{ heat, minutes, want int }{
		{220, 0, 220}, {220, 1, 215}, {220, 2, 211}, {220, 3, 207}, {350, 1, 343}, {350, 2, 336}, {350, 3, 329}, {350, 4, 322}, {350, 5, 315},
		{70, 1, 68}, {69, 1, 68}, {119, 1, 117}, {120, 1, 117}, {121, 1, 118}, {71, 1, 69},
		{20, 0, 20}, {20, 1, 20}, {20, 1000, 20}, {21, 0, 21}, {21, 1, 20}, {21, 5, 20}, {22, 1, 21}, {69, 48, 21}, {69, 49, 20}, {69, 50, 20}, {350, 1000, 20}, {350, 0, 350},
	}
	for _, c := range cases {
		if got := impl.CoolAfter(c.heat, c.minutes); got != c.want {
			t.Errorf("CoolAfter(%d, %d) = %d, want %d", c.heat, c.minutes, got, c.want)
		}
	}
	for _, heat := range outside(20, 350) {
		if got := impl.CoolAfter(heat, 5); got != -1 {
			t.Errorf("CoolAfter(%d, 5) = %d, want -1", heat, got)
		}
	}
	for _, minutes := range outside(0, 1000) {
		if got := impl.CoolAfter(220, minutes); got != -1 {
			t.Errorf("CoolAfter(220, %d) = %d, want -1", minutes, got)
		}
	}
}

func TestCoolAfterMinuteByMinute(t *testing.T) {
	for heat := 20; heat <= 350; heat++ {
		now := heat
		for minutes := 0; minutes <= 1000; minutes++ {
			if got := impl.CoolAfter(heat, minutes); got != now {
				t.Fatalf("CoolAfter(%d, %d) = %d, want %d", heat, minutes, got, now)
			}
			now -= 1 + (now-20)/50
			if now < 20 {
				now = 20
			}
		}
	}
}

func TestHeatsAreNotChanged(t *testing.T) {
	heats, order := []int{200, 250, 180}, []int{2, 0, 1}
	h, o := withSpare(heats, 77), withSpare(order, 77)
	impl.OrderCost(h, o, 240)
	clear(impl.FallingOrder(h))
	best, _ := impl.BestHeats(h, 240)
	clear(best)
	checkUntouched(t, h, slices.Clone(heats), 77)
	checkUntouched(t, o, slices.Clone(order), 77)
}
