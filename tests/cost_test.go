package tests

import (
	"math/rand/v2"
	"testing"

	"loop.example/g03310/impl"
)

// someCosts are valid, with no cost and the greatest ones.
func someCosts() []impl.Cost {
	list := []impl.Cost{{}, {Things: 60, Work: 30, Fire: 11}, {Things: 100000, Work: 100000, Fire: 100000}, {Things: 1}, {Work: 1}, {Fire: 1}, {Things: 100000}, {Work: 100000}, {Fire: 100000}, {Things: 5}, {Things: 4}, {Things: 95, Work: 5}}
	r := rand.New(rand.NewPCG(24, 0))
	for n := range 60 {
		most := 10 << (n % 13)
		list = append(list, impl.Cost{Things: r.IntN(most), Work: r.IntN(most), Fire: r.IntN(most)})
	}
	return list
}

// badCosts have a number that is not in its range.
func badCosts() []impl.Cost {
	var list []impl.Cost
	for _, n := range outside(0, 100000) {
		list = append(list, impl.Cost{Things: n, Work: 30, Fire: 11}, impl.Cost{Things: 60, Work: n, Fire: 11}, impl.Cost{Things: 60, Work: 30, Fire: n}, impl.Cost{Things: n, Work: n, Fire: n})
	}
	return list
}

func TestCostOk(t *testing.T) {
	for _, c := range someCosts() {
		if !impl.CostOk(c) {
			t.Errorf("CostOk(%v) = false", c)
		}
	}
	for _, c := range badCosts() {
		if impl.CostOk(c) {
			t.Errorf("CostOk(%v) = true", c)
		}
		if a, b, d := impl.PriceFor(c, 25), impl.MarginOf(c, 10000000), impl.LargestPart(c); a != -1 || b != -1 || d != -1 {
			t.Errorf("PriceFor, MarginOf and LargestPart of %v = %d, %d and %d; want -1", c, a, b, d)
		}
		if got := impl.PerLoaf(c, 10); got != (impl.Cost{}) {
			t.Errorf("PerLoaf(%v, 10) = %v, want the zero Cost", c, got)
		}
		good := impl.Cost{Things: 1, Work: 1, Fire: 1}
		for _, pair := range [][2]impl.Cost{{c, good}, {good, c}, {c, c}, {c, {Things: -c.Things, Work: -c.Work, Fire: -c.Fire}}} {
			if got, ok := impl.AddCosts(pair[0], pair[1]); ok || got != (impl.Cost{}) {
				t.Errorf("AddCosts(%v) = %v, %v; want the zero Cost, false", pair, got, ok)
			}
		}
	}
}

func TestPriceFor(t *testing.T) {
	c := impl.Cost{Things: 60, Work: 30, Fire: 11}
	cases := []struct {
		cost          impl.Cost
		percent, want int
	}{
		{c, 25, 130}, {c, 0, 105}, {c, 500, 610}, {c, 28, 130}, {c, 29, 135}, {impl.Cost{Things: 100}, 0, 100}, {impl.Cost{Work: 100}, 1, 105}, {impl.Cost{Fire: 100}, 5, 105}, {impl.Cost{Fire: 100}, 6, 110}, {impl.Cost{Things: 1}, 0, 5}, {impl.Cost{Things: 5}, 0, 5}, {impl.Cost{Things: 6}, 0, 10}, {impl.Cost{Things: 1}, 400, 5}, {impl.Cost{Things: 1}, 401, 10},
		{impl.Cost{Things: 100000, Work: 100000, Fire: 100000}, 500, 1800000}, {impl.Cost{Things: 100000, Work: 100000, Fire: 100000}, 0, 300000},
	}
	for _, d := range cases {
		if got := impl.PriceFor(d.cost, d.percent); got != d.want {
			t.Errorf("PriceFor(%v, %d) = %d, want %d", d.cost, d.percent, got, d.want)
		}
	}
	for _, cost := range []impl.Cost{c, {}} {
		for _, n := range outside(0, 500) {
			if got := impl.PriceFor(cost, n); got != -1 {
				t.Errorf("PriceFor(%v, %d) = %d, want -1", cost, n, got)
			}
		}
	}
}

// The price is enough for the margin, and five less is not.
func TestPriceIsLeast(t *testing.T) {
	for _, c := range someCosts() {
		sum := c.Things + c.Work + c.Fire
		for percent := 0; percent <= 500; percent++ {
			price := impl.PriceFor(c, percent)
			if price%5 != 0 || price < 0 || price*100 < sum*(100+percent) {
				t.Errorf("PriceFor(%v, %d) = %d is not enough", c, percent, price)
			}
			if price > 0 && (price-5)*100 >= sum*(100+percent) {
				t.Errorf("PriceFor(%v, %d) = %d, and five less is enough", c, percent, price)
			}
		}
	}
}

func TestNoCost(t *testing.T) {
	for _, percent := range []int{0, 25, 500} {
		if got := impl.PriceFor(impl.Cost{}, percent); got != 0 {
			t.Errorf("PriceFor no cost with %d = %d, want 0", percent, got)
		}
	}
	for _, price := range []int{0, 1, 10000000} {
		if got := impl.MarginOf(impl.Cost{}, price); got != 500 {
			t.Errorf("MarginOf no cost at %d = %d, want 500", price, got)
		}
	}
	if got, ok := impl.AddCosts(impl.Cost{}, impl.Cost{}); !ok || got != (impl.Cost{}) {
		t.Errorf("AddCosts of no costs = %v, %v", got, ok)
	}
	if a, b := impl.PerLoaf(impl.Cost{}, 10), impl.LargestPart(impl.Cost{}); a != (impl.Cost{}) || b != 0 {
		t.Errorf("PerLoaf and LargestPart of no cost = %v and %d", a, b)
	}
}

func TestMarginOf(t *testing.T) {
	c := impl.Cost{Things: 60, Work: 30, Fire: 11}
	most := impl.Cost{Things: 100000, Work: 100000, Fire: 100000}
	cases := []struct {
		cost        impl.Cost
		price, want int
	}{
		{c, 130, 28}, {c, 134, 28}, {c, 135, 33}, {c, 100, -1}, {c, 104, -1}, {c, 105, 3}, {c, 101, -1}, {c, 0, -1}, {c, 610, 500}, {c, 605, 499}, {c, 609, 499}, {c, 10000000, 500}, {most, 300000, 0}, {most, 299999, -1}, {most, 1800000, 500}, {most, 1799999, 499}, {impl.Cost{Things: 1}, 5, 400}, {impl.Cost{Things: 1}, 4, -1},
	}
	for _, d := range cases {
		if got := impl.MarginOf(d.cost, d.price); got != d.want {
			t.Errorf("MarginOf(%v, %d) = %d, want %d", d.cost, d.price, got, d.want)
		}
	}
	for _, cost := range []impl.Cost{c, {}} {
		for _, n := range outside(0, 10000000) {
			if got := impl.MarginOf(cost, n); got != -1 {
				t.Errorf("MarginOf(%v, %d) = %d, want -1", cost, n, got)
			}
		}
	}
}

func TestMarginByTrying(t *testing.T) {
	for _, c := range someCosts() {
		sum := c.Things + c.Work + c.Fire
		for _, price := range []int{0, 1, 4, 5, 6, sum - 1, sum, sum + 1, sum + 5, 2 * sum, 3*sum + 7, 6*sum - 1, 6 * sum, 6*sum + 5, 10000000} {
			if price < 0 {
				continue
			}
			want := -1
			for percent := range 501 {
				// What the price is rounded down to in steps of 5.
				if price/5*5*100 >= sum*(100+percent) {
					want = percent
				}
			}
			if got := impl.MarginOf(c, price); got != want {
				t.Errorf("MarginOf(%v, %d) = %d, want %d", c, price, got, want)
			}
		}
	}
}

func TestAddCosts(t *testing.T) {
	c := impl.Cost{Things: 60, Work: 30, Fire: 11}
	good := []struct{ a, b, want impl.Cost }{
		{c, c, impl.Cost{Things: 120, Work: 60, Fire: 22}}, {c, impl.Cost{}, c}, {impl.Cost{}, c, c}, {c, impl.Cost{Things: 1, Work: 2, Fire: 3}, impl.Cost{Things: 61, Work: 32, Fire: 14}}, {c, impl.Cost{Things: 99940, Work: 99970, Fire: 99989}, impl.Cost{Things: 100000, Work: 100000, Fire: 100000}},
	}
	for _, d := range good {
		if got, ok := impl.AddCosts(d.a, d.b); !ok || got != d.want {
			t.Errorf("AddCosts(%v, %v) = %v, %v; want %v, true", d.a, d.b, got, ok, d.want)
		}
	}
	for _, b := range []impl.Cost{{Things: 99941}, {Work: 99971}, {Fire: 99990}, {Things: 100000, Work: 100000, Fire: 100000}} {
		for _, pair := range [][2]impl.Cost{{c, b}, {b, c}} {
			if got, ok := impl.AddCosts(pair[0], pair[1]); ok || got != (impl.Cost{}) {
				t.Errorf("AddCosts(%v) = %v, %v; want the zero Cost, false", pair, got, ok)
			}
		}
	}
}

func TestPerLoaf(t *testing.T) {
	c := impl.Cost{Things: 60, Work: 30, Fire: 11}
	cases := []struct {
		cost   impl.Cost
		loaves int
		want   impl.Cost
	}{
		{c, 10, impl.Cost{Things: 6, Work: 3, Fire: 2}}, {c, 1, c}, {c, 11, impl.Cost{Things: 6, Work: 3, Fire: 1}}, {c, 12, impl.Cost{Things: 5, Work: 3, Fire: 1}}, {c, 1000, impl.Cost{Things: 1, Work: 1, Fire: 1}}, {impl.Cost{Things: 100000, Work: 99999, Fire: 99001}, 1000, impl.Cost{Things: 100, Work: 100, Fire: 100}}, {impl.Cost{Work: 7}, 7, impl.Cost{Work: 1}}, {impl.Cost{Fire: 8}, 7, impl.Cost{Fire: 2}},
	}
	for _, d := range cases {
		if got := impl.PerLoaf(d.cost, d.loaves); got != d.want {
			t.Errorf("PerLoaf(%v, %d) = %v, want %v", d.cost, d.loaves, got, d.want)
		}
	}
	for _, n := range outside(1, 1000) {
		if got := impl.PerLoaf(c, n); got != (impl.Cost{}) {
			t.Errorf("PerLoaf(%v, %d) = %v, want the zero Cost", c, n, got)
		}
	}
	// Each cost is enough for all loaves, and one less is not.
	for _, cost := range someCosts() {
		for loaves := 1; loaves <= 1000; loaves += 1 + loaves/8 {
			got := impl.PerLoaf(cost, loaves)
			for _, p := range [][2]int{{got.Things, cost.Things}, {got.Work, cost.Work}, {got.Fire, cost.Fire}} {
				if p[0]*loaves < p[1] || (p[0]-1)*loaves >= p[1] && p[1] > 0 || p[1] == 0 && p[0] != 0 {
					t.Errorf("PerLoaf(%v, %d) = %v", cost, loaves, got)
				}
			}
		}
	}
}

func TestLargestPart(t *testing.T) {
	cases := []struct {
		cost impl.Cost
		want int
	}{
		{impl.Cost{Things: 60, Work: 30, Fire: 11}, 0}, {impl.Cost{Work: 3, Fire: 3}, 1}, {impl.Cost{Things: 3, Work: 3, Fire: 3}, 0}, {impl.Cost{Things: 3, Work: 3}, 0}, {impl.Cost{Things: 3, Fire: 3}, 0}, {impl.Cost{Things: 3, Work: 4, Fire: 3}, 1}, {impl.Cost{Things: 3, Work: 4, Fire: 5}, 2}, {impl.Cost{Things: 5, Work: 4, Fire: 6}, 2}, {impl.Cost{Fire: 1}, 2}, {impl.Cost{Things: 3, Work: 5, Fire: 5}, 1}, {impl.Cost{Things: 99999, Work: 99999, Fire: 100000}, 2},
	}
	for _, c := range cases {
		if got := impl.LargestPart(c.cost); got != c.want {
			t.Errorf("LargestPart(%v) = %d, want %d", c.cost, got, c.want)
		}
	}
}
