package tests

import (
	"math/rand/v2"
	"testing"

	"loop.example/g03310/impl"
)

// oddsLists are valid, with 1 to 20 odds.
func oddsLists() [][]impl.Odds {
	lists := [][]impl.Odds{
		{{Loaves: 10, Weight: 1}, {Loaves: 20, Weight: 3}},
		{{Loaves: 20, Weight: 1}, {Loaves: 10, Weight: 1}},
		{{Loaves: 0, Weight: 1}},
		{{Loaves: 1000, Weight: 100}},
		{{Loaves: 10, Weight: 5}, {Loaves: 10, Weight: 7}},
		{{Loaves: 0, Weight: 50}, {Loaves: 1000, Weight: 50}},
		repeated(20, impl.Odds{Loaves: 1000, Weight: 100}),
	}
	r := rand.New(rand.NewPCG(15, 0))
	for n := range 40 {
		list := make([]impl.Odds, n%20+1)
		for i := range list {
			list[i] = impl.Odds{Loaves: r.IntN(1001), Weight: 1 + r.IntN(100)}
		}
		lists = append(lists, list)
	}
	return lists
}

// badOddsLists have no or too many odds or one that is not valid.
func badOddsLists() [][]impl.Odds {
	good := impl.Odds{Loaves: 10, Weight: 1}
	lists := [][]impl.Odds{nil, {}, {{}}, repeated(21, good), repeated(500, good)}
	for _, n := range outside(0, 1000) {
		b := impl.Odds{Loaves: n, Weight: 1}
		lists = append(lists, []impl.Odds{b}, []impl.Odds{b, good}, []impl.Odds{good, good, b})
	}
	for _, n := range outside(1, 100) {
		b := impl.Odds{Loaves: 10, Weight: n}
		lists = append(lists, []impl.Odds{b}, []impl.Odds{b, good}, []impl.Odds{good, good, b})
	}
	return lists
}

func TestOddsOk(t *testing.T) {
	for _, list := range oddsLists() {
		if !impl.OddsOk(list) {
			t.Errorf("OddsOk(%v) = false", list)
		}
	}
	for _, list := range badOddsLists() {
		if impl.OddsOk(list) {
			t.Errorf("OddsOk(%v) = true", list)
		}
		if got := impl.GainFor(list, 5, 4, 1); got != 0 {
			t.Errorf("GainFor(%v, 5, 4, 1) = %d, want 0", list, got)
		}
		if got := impl.BestBake(list, 4, 1); got != -1 {
			t.Errorf("BestBake(%v, 4, 1) = %d, want -1", list, got)
		}
		if got := impl.SoldOutWeight(list, 5); got != -1 {
			t.Errorf("SoldOutWeight(%v, 5) = %d, want -1", list, got)
		}
		if impl.IsBetter(list, 5, 0, 4, 1) || impl.IsBetter(list, 0, 5, 4, 1) {
			t.Errorf("IsBetter of %v is true", list)
		}
	}
}

// gainByLoaf counts what is earned loaf by loaf.
func gainByLoaf(list []impl.Odds, baked int, gain int, cost int) int {
	sum := 0
	for _, o := range list {
		for loaf := range baked {
			sum -= cost * o.Weight
			if loaf < o.Loaves {
				sum += gain * o.Weight
			}
		}
	}
	return sum
}

func TestGainFor(t *testing.T) {
	two := []impl.Odds{{Loaves: 10, Weight: 1}, {Loaves: 20, Weight: 3}}
	cases := []struct {
		list              []impl.Odds
		baked, gain, cost int
		want              int
	}{
		{two, 15, 4, 1, 160}, {two, 10, 4, 1, 120}, {two, 20, 4, 1, 200}, {two, 21, 4, 1, 196}, {two, 0, 4, 1, 0}, {two, 1000, 0, 1, -4000}, {two, 1000, 4, 0, 280}, {two, 15, 0, 0, 0},
		{repeated(20, impl.Odds{Loaves: 1000, Weight: 100}), 1000, 100, 0, 200000000}, {repeated(20, impl.Odds{Loaves: 0, Weight: 100}), 1000, 100, 100, -200000000},
	}
	for _, c := range cases {
		if got := impl.GainFor(c.list, c.baked, c.gain, c.cost); got != c.want {
			t.Errorf("GainFor(%v, %d, %d, %d) = %d, want %d", c.list, c.baked, c.gain, c.cost, got, c.want)
		}
	}
	for _, list := range oddsLists() {
		for baked := 0; baked <= 1000; baked += 1 + baked/3 {
			if got, want := impl.GainFor(list, baked, 7, 3), gainByLoaf(list, baked, 7, 3); got != want {
				t.Errorf("GainFor(%v, %d, 7, 3) = %d, want %d", list, baked, got, want)
			}
		}
	}
}

func TestBakingRejects(t *testing.T) {
	list := []impl.Odds{{Loaves: 10, Weight: 1}, {Loaves: 20, Weight: 3}}
	for _, n := range outside(0, 1000) {
		if got := impl.GainFor(list, n, 4, 1); got != 0 {
			t.Errorf("GainFor(%v, %d, 4, 1) = %d, want 0", list, n, got)
		}
		if got := impl.SoldOutWeight(list, n); got != -1 {
			t.Errorf("SoldOutWeight(%v, %d) = %d, want -1", list, n, got)
		}
		// A loss of the other number does not make the invalid one better.
		if impl.IsBetter(list, n, 1000, 0, 100) || impl.IsBetter(list, 20, n, 4, 1) || impl.IsBetter(list, n, n, 4, 1) {
			t.Errorf("IsBetter of %d is true", n)
		}
	}
	for _, n := range outside(0, 100) {
		if a, b := impl.GainFor(list, 15, n, 1), impl.GainFor(list, 15, 4, n); a != 0 || b != 0 {
			t.Errorf("GainFor with %d = %d and %d, want 0", n, a, b)
		}
		if a, b := impl.BestBake(list, n, 1), impl.BestBake(list, 4, n); a != -1 || b != -1 {
			t.Errorf("BestBake with %d = %d and %d, want -1", n, a, b)
		}
		for _, a := range []int{0, 10, 20, 1000} {
			for _, b := range []int{0, 10, 20, 1000} {
				if impl.IsBetter(list, a, b, n, 1) || impl.IsBetter(list, a, b, 4, n) {
					t.Errorf("IsBetter of %d and %d with %d is true", a, b, n)
				}
			}
		}
	}
}

func TestBestBake(t *testing.T) {
	two := []impl.Odds{{Loaves: 10, Weight: 1}, {Loaves: 20, Weight: 3}}
	most := []impl.Odds{{Loaves: 1000, Weight: 100}}
	cases := []struct {
		list             []impl.Odds
		gain, cost, want int
	}{
		{two, 4, 1, 20}, {two, 4, 3, 10}, {two, 4, 2, 20}, {two, 100, 0, 20}, {two, 0, 100, 0}, {two, 3, 4, 0}, {most, 100, 0, 1000}, {most, 100, 99, 1000}, {most, 0, 1, 0},
	}
	for _, c := range cases {
		if got := impl.BestBake(c.list, c.gain, c.cost); got != c.want {
			t.Errorf("BestBake(%v, %d, %d) = %d, want %d", c.list, c.gain, c.cost, got, c.want)
		}
	}
}

// Of several numbers with the same gain, the least is the best, and none of
// them is better than another.
func TestEqualGains(t *testing.T) {
	two := []impl.Odds{{Loaves: 10, Weight: 1}, {Loaves: 20, Weight: 1}}
	cases := []struct {
		list             []impl.Odds
		gain, cost, want int
		to               int
	}{
		{two, 2, 1, 10, 20}, {two, 0, 0, 0, 1000}, {two, 1, 1, 0, 10}, {two, 5, 0, 20, 1000}, {[]impl.Odds{{Loaves: 1000, Weight: 7}}, 100, 100, 0, 1000}, {[]impl.Odds{{Loaves: 0, Weight: 7}}, 100, 0, 0, 1000},
	}
	for _, c := range cases {
		if got := impl.BestBake(c.list, c.gain, c.cost); got != c.want {
			t.Errorf("BestBake(%v, %d, %d) = %d, want %d", c.list, c.gain, c.cost, got, c.want)
		}
		for baked := c.want; baked <= c.to; baked++ {
			if impl.GainFor(c.list, baked, c.gain, c.cost) != impl.GainFor(c.list, c.want, c.gain, c.cost) {
				t.Errorf("GainFor(%v, %d, %d, %d) differs from that of %d", c.list, baked, c.gain, c.cost, c.want)
			}
			if impl.IsBetter(c.list, baked, c.want, c.gain, c.cost) || impl.IsBetter(c.list, c.want, baked, c.gain, c.cost) {
				t.Errorf("with equal gains of %v, one of %d and %d is better", c.list, baked, c.want)
			}
		}
	}
}

// No other number of loaves gains more, no lesser one as much, and the best one
// sells out seldom enough: one more loaf would cost at least what it gains.
func TestBestBakeIsBest(t *testing.T) {
	prices := []struct{ gain, cost int }{{4, 1}, {4, 2}, {4, 3}, {4, 4}, {0, 0}, {100, 1}, {1, 100}, {100, 100}, {7, 0}, {0, 7}, {50, 33}}
	for _, list := range oddsLists() {
		weights := 0
		for _, o := range list {
			weights += o.Weight
		}
		for _, p := range prices {
			best := impl.BestBake(list, p.gain, p.cost)
			most := impl.GainFor(list, best, p.gain, p.cost)
			for baked := range 1001 {
				gain := impl.GainFor(list, baked, p.gain, p.cost)
				if gain > most || gain == most && baked < best {
					t.Fatalf("BestBake(%v, %d, %d) = %d, but %d gains %d", list, p.gain, p.cost, best, baked, gain)
				}
				if impl.IsBetter(list, best, baked, p.gain, p.cost) != (most > gain) || impl.IsBetter(list, baked, best, p.gain, p.cost) {
					t.Fatalf("IsBetter(%v) of %d and %d is wrong", list, best, baked)
				}
			}
			if best < 1000 && p.gain*impl.SoldOutWeight(list, best) > p.cost*weights {
				t.Errorf("BestBake(%v, %d, %d) = %d sells out too often", list, p.gain, p.cost, best)
			}
			if best > 0 && p.gain*impl.SoldOutWeight(list, best-1) <= p.cost*weights {
				t.Errorf("BestBake(%v, %d, %d) = %d: the last loaf gains nothing", list, p.gain, p.cost, best)
			}
		}
	}
}

func TestSoldOutWeight(t *testing.T) {
	list := []impl.Odds{{Loaves: 10, Weight: 1}, {Loaves: 20, Weight: 3}, {Loaves: 1000, Weight: 100}, {Loaves: 0, Weight: 50}}
	cases := []struct{ baked, want int }{{0, 104}, {9, 104}, {10, 103}, {19, 103}, {20, 100}, {999, 100}, {1000, 0}}
	for _, c := range cases {
		if got := impl.SoldOutWeight(list, c.baked); got != c.want {
			t.Errorf("SoldOutWeight(%v, %d) = %d, want %d", list, c.baked, got, c.want)
		}
	}
	if got := impl.SoldOutWeight(repeated(20, impl.Odds{Loaves: 1, Weight: 100}), 0); got != 2000 {
		t.Errorf("the greatest SoldOutWeight = %d, want 2000", got)
	}
}

func TestIsBetter(t *testing.T) {
	list := []impl.Odds{{Loaves: 10, Weight: 1}, {Loaves: 20, Weight: 3}}
	cases := []struct {
		a, b, gain, cost int
		want             bool
	}{
		{20, 10, 4, 1, true}, {10, 20, 4, 1, false}, {20, 20, 4, 1, false}, {0, 1000, 4, 1, true}, {1000, 0, 4, 1, false}, {1000, 999, 4, 1, false}, {999, 1000, 4, 1, true}, {1, 0, 100, 0, true}, {0, 1, 0, 100, true},
	}
	for _, c := range cases {
		if got := impl.IsBetter(list, c.a, c.b, c.gain, c.cost); got != c.want {
			t.Errorf("IsBetter(%v, %d, %d, %d, %d) = %v", list, c.a, c.b, c.gain, c.cost, got)
		}
	}
}

func TestOddsAreNotChanged(t *testing.T) {
	list := []impl.Odds{{Loaves: 20, Weight: 3}, {Loaves: 10, Weight: 1}}
	mark := impl.Odds{Loaves: 7}
	given := withSpare(list, mark)
	impl.GainFor(given, 15, 4, 1)
	impl.BestBake(given, 4, 1)
	impl.SoldOutWeight(given, 10)
	impl.IsBetter(given, 20, 10, 4, 1)
	checkUntouched(t, given, list, mark)
}
