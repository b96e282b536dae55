package tests

import (
	"math/rand/v2"
	"slices"
	"testing"

	"loop.example/g03310/impl"
)

func threeFlours() []impl.Flour {
	return []impl.Flour{{Strength: 100, Price: 2, Stock: 10}, {Strength: 300, Price: 5, Stock: 10}, {Strength: 200, Price: 3, Stock: 2}}
}

// flourLists are valid, with up to as many flours as there may be, and with
// stocks that are too little for many blends.
func flourLists() [][]impl.Flour {
	lists := [][]impl.Flour{
		threeFlours(), {{Strength: 50, Price: 1, Stock: 0}}, {{Strength: 500, Price: 100, Stock: 100}}, repeated(5, impl.Flour{Strength: 500, Price: 100, Stock: 100}), repeated(2, impl.Flour{Strength: 200, Price: 7, Stock: 50}), {{Strength: 499, Price: 1, Stock: 1}, {Strength: 51, Price: 99, Stock: 99}}, repeated(3, impl.Flour{Strength: 80, Price: 3, Stock: 0}),
	}
	r := rand.New(rand.NewPCG(27, 0))
	for n := range 60 {
		list := make([]impl.Flour, n%5+1)
		for i := range list {
			list[i] = impl.Flour{Strength: 50 + r.IntN(451), Price: 1 + r.IntN(4+n), Stock: r.IntN(101) * (n % 3) / 2}
		}
		lists = append(lists, list)
	}
	return lists
}

// badFlourLists have no flours, too many, or one that is not valid.
func badFlourLists() [][]impl.Flour {
	good := impl.Flour{Strength: 100, Price: 2, Stock: 10}
	var bad []impl.Flour
	for _, n := range outside(50, 500) {
		bad = append(bad, impl.Flour{Strength: n, Price: 2, Stock: 10})
	}
	for _, n := range outside(1, 100) {
		bad = append(bad, impl.Flour{Strength: 100, Price: n, Stock: 10})
	}
	for _, n := range outside(0, 100) {
		bad = append(bad, impl.Flour{Strength: 100, Price: 2, Stock: n})
	}
	lists := [][]impl.Flour{nil, {}, {{}}, repeated(6, good), repeated(50, good)}
	for _, f := range bad {
		lists = append(lists, []impl.Flour{f, good}, []impl.Flour{good, f}, []impl.Flour{good, good, f}, []impl.Flour{f})
	}
	return lists
}

func TestFloursOk(t *testing.T) {
	for _, list := range flourLists() {
		if !impl.FloursOk(list) {
			t.Errorf("FloursOk(%v) = false", list)
		}
	}
	for _, list := range badFlourLists() {
		if impl.FloursOk(list) {
			t.Errorf("FloursOk(%v) = true", list)
		}
		kilos := repeated(len(list), 1)
		if a, b, c := impl.StrengthOf(list, kilos), impl.BlendCost(list, kilos), impl.StrongestFor(list, 1); a != -1 || b != -1 || c != -1 {
			t.Errorf("StrengthOf, BlendCost and StrongestFor of %v = %d, %d and %d; want -1", list, a, b, c)
		}
		if got := impl.BlendCost(list, repeated(len(list), 0)); got != -1 {
			t.Errorf("BlendCost(%v) of nothing = %d, want -1", list, got)
		}
		if i, k, n, ok := impl.CheapestTwo(list, 1, 50); i != 0 || k != 0 || n != 0 || ok {
			t.Errorf("CheapestTwo(%v, 1, 50) = %d, %d, %d, %v; want zeros and false", list, i, k, n, ok)
		}
	}
}

func TestBlends(t *testing.T) {
	cases := []struct {
		kilos          []int
		strength, cost int
	}{
		{[]int{1, 2, 0}, 233, 12}, {[]int{0, 0, 0}, -1, 0}, {[]int{1, 2, 1}, 225, 15}, {[]int{10, 10, 2}, 200, 76}, {[]int{10, 0, 0}, 100, 20}, {[]int{0, 1, 0}, 300, 5}, {[]int{0, 0, 2}, 200, 6}, {[]int{2, 1, 0}, 166, 9}, {[]int{1, 0, 2}, 166, 8}, {[]int{9, 10, 1}, 205, 71},
	}
	for _, c := range cases {
		if a, b := impl.StrengthOf(threeFlours(), c.kilos), impl.BlendCost(threeFlours(), c.kilos); a != c.strength || b != c.cost {
			t.Errorf("StrengthOf and BlendCost of %v = %d and %d, want %d and %d", c.kilos, a, b, c.strength, c.cost)
		}
	}
}

// Stocks that are too little make a blend impossible.
func TestBlendsReject(t *testing.T) {
	bad := [][]int{
		nil, {}, {1, 2}, {1, 2, 1, 0}, {1, 2, 1, 1}, {11, 0, 0}, {0, 11, 0}, {0, 0, 3}, {10, 10, 3}, {-1, 5, 1}, {5, -1, 1}, {5, 5, -1}, {-1, 0, 0}, {1, -1, 0},
	}
	for _, n := range farOut {
		bad = append(bad, []int{n, 1, 1}, []int{1, n, 1}, []int{1, 1, n}, []int{n, -n, 1}, []int{n, n, n})
	}
	for _, kilos := range bad {
		if a, b := impl.StrengthOf(threeFlours(), kilos), impl.BlendCost(threeFlours(), kilos); a != -1 || b != -1 {
			t.Errorf("StrengthOf and BlendCost of %v = %d and %d, want -1", kilos, a, b)
		}
	}
	for _, list := range flourLists() {
		for i, f := range list {
			kilos := repeated(len(list), 0)
			kilos[i] = f.Stock + 1
			if a, b := impl.StrengthOf(list, kilos), impl.BlendCost(list, kilos); a != -1 || b != -1 {
				t.Errorf("StrengthOf and BlendCost of %v and %v = %d and %d, want -1", list, kilos, a, b)
			}
		}
	}
}

// A blend lies between its flours.
func TestBlendLiesBetween(t *testing.T) {
	r := rand.New(rand.NewPCG(27, 1))
	for _, list := range flourLists() {
		for range 20 {
			kilos := make([]int, len(list))
			sum, cost, least, greatest := 0, 0, 500, 50
			strength := 0
			for i, f := range list {
				kilos[i] = r.IntN(f.Stock + 1)
				sum += kilos[i]
				cost += kilos[i] * f.Price
				strength += kilos[i] * f.Strength
				if kilos[i] > 0 {
					least, greatest = min(least, f.Strength), max(greatest, f.Strength)
				}
			}
			got := impl.StrengthOf(list, kilos)
			if sum == 0 {
				if got != -1 {
					t.Errorf("StrengthOf(%v, %v) = %d, want -1", list, kilos, got)
				}
				continue
			}
			if got < least || got > greatest || got*sum > strength || (got+1)*sum <= strength {
				t.Errorf("StrengthOf(%v, %v) = %d", list, kilos, got)
			}
			if got := impl.BlendCost(list, kilos); got != cost {
				t.Errorf("BlendCost(%v, %v) = %d, want %d", list, kilos, got, cost)
			}
		}
	}
}

// twoByTrying tries all blends of two flours, in the order of i, k and kilos.
func twoByTrying(list []impl.Flour, total int, least int) [4]int {
	best := [4]int{0, 0, 0, -1}
	for i := range list {
		for k := i + 1; k < len(list); k++ {
			for n := range total + 1 {
				kilos := make([]int, len(list))
				kilos[i], kilos[k] = n, total-n
				cost := impl.BlendCost(list, kilos)
				if impl.StrengthOf(list, kilos) >= least && (best[3] < 0 || cost < best[3]) {
					best = [4]int{i, k, n, cost}
				}
			}
		}
	}
	return best
}

func TestCheapestTwo(t *testing.T) {
	l := threeFlours()
	cases := []struct {
		list              []impl.Flour
		total, least      int
		first, second, of int
	}{
		{l, 8, 200, 0, 1, 4}, {l, 2, 200, 0, 2, 0}, {l, 2, 201, 1, 2, 1}, {l, 3, 150, 0, 2, 1}, {l, 3, 167, 1, 2, 1}, {l, 3, 166, 0, 2, 1}, {l, 20, 200, 0, 1, 10}, {l, 20, 50, 0, 1, 10}, {l, 8, 300, 0, 1, 0}, {l, 10, 300, 0, 1, 0}, {l, 1, 50, 0, 1, 1}, {l, 10, 100, 0, 1, 10}, {l, 11, 100, 0, 2, 10}, {l, 12, 100, 0, 2, 10}, {l, 12, 101, 0, 2, 10}, {l, 13, 100, 0, 1, 10},
		// Of several ones with the same cost, the first.
		{repeated(3, impl.Flour{Strength: 200, Price: 7, Stock: 50}), 10, 200, 0, 1, 0}, {repeated(3, impl.Flour{Strength: 200, Price: 7, Stock: 50}), 60, 200, 0, 1, 10}, {repeated(3, impl.Flour{Strength: 200, Price: 7, Stock: 50}), 100, 200, 0, 1, 50}, {[]impl.Flour{{Strength: 100, Price: 7, Stock: 0}, {Strength: 200, Price: 7, Stock: 4}, {Strength: 300, Price: 7, Stock: 4}, {Strength: 300, Price: 7, Stock: 4}}, 4, 250, 0, 2, 0}, {[]impl.Flour{{Strength: 100, Price: 7, Stock: 9}, {Strength: 200, Price: 7, Stock: 2}, {Strength: 300, Price: 7, Stock: 3}}, 4, 250, 0, 2, 1}, {[]impl.Flour{{Strength: 100, Price: 7, Stock: 0}, {Strength: 200, Price: 7, Stock: 2}, {Strength: 300, Price: 7, Stock: 3}}, 4, 250, 1, 2, 1},
		{repeated(5, impl.Flour{Strength: 500, Price: 100, Stock: 100}), 100, 500, 0, 1, 0}, {repeated(2, impl.Flour{Strength: 50, Price: 1, Stock: 50}), 100, 50, 0, 1, 50},
	}
	for _, c := range cases {
		if i, k, n, ok := impl.CheapestTwo(c.list, c.total, c.least); !ok || i != c.first || k != c.second || n != c.of {
			t.Errorf("CheapestTwo(%v, %d, %d) = %d, %d, %d, %v; want %d, %d, %d, true", c.list, c.total, c.least, i, k, n, ok, c.first, c.second, c.of)
		}
	}
	none := []struct {
		list         []impl.Flour
		total, least int
	}{
		{l, 8, 301}, {l, 21, 50}, {l, 20, 201}, {l, 11, 296}, {l[:1], 1, 50}, {l[:1], 10, 100}, {l[1:2], 5, 300}, {repeated(3, impl.Flour{Strength: 80, Price: 3, Stock: 0}), 1, 50}, {repeated(2, impl.Flour{Strength: 499, Price: 1, Stock: 100}), 100, 500}, {repeated(2, impl.Flour{Strength: 50, Price: 1, Stock: 49}), 99, 50},
	}
	for _, c := range none {
		if i, k, n, ok := impl.CheapestTwo(c.list, c.total, c.least); i != 0 || k != 0 || n != 0 || ok {
			t.Errorf("CheapestTwo(%v, %d, %d) = %d, %d, %d, %v; want zeros and false", c.list, c.total, c.least, i, k, n, ok)
		}
	}
}

// No two flours are cheaper.
func TestCheapestTwoByTrying(t *testing.T) {
	for _, list := range flourLists() {
		for _, total := range []int{1, 2, 7, 30, 99, 100} {
			for _, least := range []int{50, 120, 200, 275, 333, 499, 500} {
				want := twoByTrying(list, total, least)
				i, k, n, ok := impl.CheapestTwo(list, total, least)
				if got := [3]int{i, k, n}; ok != (want[3] >= 0) || got != [3]int(want[:3]) {
					t.Errorf("CheapestTwo(%v, %d, %d) = %v, %v; want %v", list, total, least, got, ok, want)
				}
			}
		}
	}
}

func TestCheapestTwoRejects(t *testing.T) {
	for _, list := range [][]impl.Flour{threeFlours(), repeated(5, impl.Flour{Strength: 500, Price: 1, Stock: 100})} {
		for _, total := range outside(1, 100) {
			if i, k, n, ok := impl.CheapestTwo(list, total, 50); i != 0 || k != 0 || n != 0 || ok {
				t.Errorf("CheapestTwo(%v, %d, 50) = %d, %d, %d, %v; want zeros and false", list, total, i, k, n, ok)
			}
		}
		for _, least := range outside(50, 500) {
			if i, k, n, ok := impl.CheapestTwo(list, 8, least); i != 0 || k != 0 || n != 0 || ok {
				t.Errorf("CheapestTwo(%v, 8, %d) = %d, %d, %d, %v; want zeros and false", list, least, i, k, n, ok)
			}
		}
	}
}

// strongestByKilo takes kilo by kilo, each from the strongest flour that is left.
func strongestByKilo(list []impl.Flour, total int) int {
	var kilos []int
	for _, f := range list {
		kilos = append(kilos, repeated(f.Stock, f.Strength)...)
	}
	if len(kilos) < total {
		return -1
	}
	slices.Sort(kilos)
	sum := 0
	for _, strength := range kilos[len(kilos)-total:] {
		sum += strength
	}
	return sum / total
}

func TestStrongestFor(t *testing.T) {
	cases := []struct{ total, want int }{{1, 300}, {10, 300}, {11, 290}, {12, 283}, {13, 269}, {22, 200}, {23, -1}, {500, -1}}
	for _, c := range cases {
		if got := impl.StrongestFor(threeFlours(), c.total); got != c.want {
			t.Errorf("StrongestFor(%v, %d) = %d, want %d", threeFlours(), c.total, got, c.want)
		}
	}
	all := repeated(5, impl.Flour{Strength: 321, Price: 1, Stock: 100})
	if got := impl.StrongestFor(all, 500); got != 321 {
		t.Errorf("StrongestFor of all flours = %d, want 321", got)
	}
	for _, list := range flourLists() {
		for total := 1; total <= 500; total += 1 + total/5 {
			if got, want := impl.StrongestFor(list, total), strongestByKilo(list, total); got != want {
				t.Errorf("StrongestFor(%v, %d) = %d, want %d", list, total, got, want)
			}
		}
		for _, total := range outside(1, 500) {
			if got := impl.StrongestFor(list, total); got != -1 {
				t.Errorf("StrongestFor(%v, %d) = %d, want -1", list, total, got)
			}
		}
	}
}

func TestFloursAreNotChanged(t *testing.T) {
	mark := impl.Flour{Price: 77}
	given := withSpare(threeFlours(), mark)
	kilos := withSpare([]int{1, 2, 1}, -9)
	impl.StrengthOf(given, kilos)
	impl.BlendCost(given, kilos)
	impl.CheapestTwo(given, 8, 200)
	impl.StrongestFor(given, 12)
	checkUntouched(t, given, threeFlours(), mark)
	checkUntouched(t, kilos, []int{1, 2, 1}, -9)
}
