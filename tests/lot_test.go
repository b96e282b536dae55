package tests

import (
	"math/rand/v2"
	"slices"
	"testing"

	"loop.example/g03310/impl"
)

func fiveUses() []impl.Use {
	return []impl.Use{{Lot: 1, Bread: 5, Grams: 10}, {Lot: 2, Bread: 5, Grams: 20}, {Lot: 2, Bread: 6, Grams: 30}, {Lot: 3, Bread: 7, Grams: 40}, {Lot: 4, Bread: 6, Grams: 50}}
}

// useLists are valid, with up to 60 uses.
func useLists() [][]impl.Use {
	lists := [][]impl.Use{
		nil, fiveUses(), {{Lot: 1, Bread: 1, Grams: 1}}, {{Lot: 50, Bread: 50, Grams: 100000}}, repeated(60, impl.Use{Lot: 7, Bread: 9, Grams: 100000}),
		{{Lot: 9, Bread: 1, Grams: 1}, {Lot: 3, Bread: 1, Grams: 1}, {Lot: 9, Bread: 1, Grams: 1}, {Lot: 5, Bread: 2, Grams: 1}, {Lot: 3, Bread: 2, Grams: 1}},
	}
	var chain []impl.Use
	for i := 1; i < 31; i++ {
		chain = append(chain, impl.Use{Lot: 51 - i, Bread: i, Grams: i}, impl.Use{Lot: 50 - i, Bread: i, Grams: i})
	}
	lists = append(lists, chain)
	r := rand.New(rand.NewPCG(17, 0))
	for n := range 100 {
		list := make([]impl.Use, n%61)
		for i := range list {
			list[i] = impl.Use{Lot: 1 + r.IntN(5+n%46), Bread: 1 + r.IntN(3+n%48), Grams: 1 + r.IntN(100000)}
		}
		lists = append(lists, list)
	}
	return lists
}

// badUseLists have too many uses or one that is not valid.
func badUseLists() [][]impl.Use {
	good := impl.Use{Lot: 1, Bread: 5, Grams: 10}
	bad := []impl.Use{{}}
	for _, n := range outside(1, 50) {
		bad = append(bad, impl.Use{Lot: n, Bread: 5, Grams: 10}, impl.Use{Lot: 1, Bread: n, Grams: 10})
	}
	for _, n := range outside(1, 100000) {
		bad = append(bad, impl.Use{Lot: 1, Bread: 5, Grams: n})
	}
	lists := [][]impl.Use{repeated(61, good), repeated(500, good)}
	for _, u := range bad {
		lists = append(lists, []impl.Use{u}, []impl.Use{u, good}, []impl.Use{good, good, u})
	}
	return lists
}

func TestUsesOk(t *testing.T) {
	for _, list := range useLists() {
		if !impl.UsesOk(list) {
			t.Errorf("UsesOk(%v) = false", list)
		}
	}
	for _, list := range badUseLists() {
		if impl.UsesOk(list) {
			t.Errorf("UsesOk(%v) = true", list)
		}
		if a, b, c, d := impl.BreadsOf(list, 1), impl.LotsOf(list, 5), impl.Reached(list, 1), impl.Suspects(list, []int{5}); a != nil || b != nil || c != nil || d != nil {
			t.Errorf("BreadsOf, LotsOf, Reached and Suspects of %v = %v, %v, %v and %v; want nil", list, a, b, c, d)
		}
		if got := impl.UsedOf(list, 1); got != -1 {
			t.Errorf("UsedOf(%v, 1) = %d, want -1", list, got)
		}
	}
}

func used(list []impl.Use, lot int, bread int) bool {
	return slices.ContainsFunc(list, func(u impl.Use) bool { return u.Lot == lot && u.Bread == bread })
}

// A lot and a bread know each other.
func TestBreadsAndLots(t *testing.T) {
	for _, list := range useLists() {
		for n := -1; n <= 52; n++ {
			var breads, lots []int
			grams := 0
			for m := 1; m <= 50; m++ {
				if used(list, n, m) {
					breads = append(breads, m)
				}
				if used(list, m, n) {
					lots = append(lots, m)
				}
			}
			for _, u := range list {
				if u.Lot == n {
					grams += u.Grams
				}
			}
			if got := impl.BreadsOf(list, n); !slices.Equal(got, breads) {
				t.Errorf("BreadsOf(%v, %d) = %v, want %v", list, n, got, breads)
			}
			if got := impl.LotsOf(list, n); !slices.Equal(got, lots) {
				t.Errorf("LotsOf(%v, %d) = %v, want %v", list, n, got, lots)
			}
			if got := impl.UsedOf(list, n); got != grams {
				t.Errorf("UsedOf(%v, %d) = %d, want %d", list, n, got, grams)
			}
			for _, b := range breads {
				if !slices.Contains(impl.LotsOf(list, b), n) {
					t.Errorf("bread %d does not know lot %d in %v", b, n, list)
				}
			}
		}
	}
}

func TestLotsThatWereNotUsed(t *testing.T) {
	lots := append([]int{5, 9, 50, 0, -1, 51}, farOut...)
	for _, lot := range lots {
		if a, b, c := impl.BreadsOf(fiveUses(), lot), impl.Reached(fiveUses(), lot), impl.UsedOf(fiveUses(), lot); len(a) != 0 || len(b) != 0 || c != 0 {
			t.Errorf("BreadsOf, Reached and UsedOf of lot %d = %v, %v and %d", lot, a, b, c)
		}
		if lot != 5 {
			if got := impl.LotsOf(fiveUses(), lot); len(got) != 0 {
				t.Errorf("LotsOf of bread %d = %v", lot, got)
			}
		}
	}
	if a, b, c, d := impl.BreadsOf(nil, 1), impl.Reached(nil, 1), impl.UsedOf(nil, 1), impl.Suspects(nil, []int{1}); len(a) != 0 || len(b) != 0 || c != 0 || len(d) != 0 {
		t.Errorf("without uses: %v, %v, %d, %v", a, b, c, d)
	}
	// A bad bread for which no lot was used has no suspects.
	for _, bad := range [][]int{{8}, {5, 8}, {8, 50}} {
		if got := impl.Suspects(fiveUses(), bad); len(got) != 0 {
			t.Errorf("Suspects(%v) = %v", bad, got)
		}
	}
}

// reachedBySteps joins the lots of each bread until nothing is added.
func reachedBySteps(list []impl.Use, lot int) []int {
	if !slices.ContainsFunc(list, func(u impl.Use) bool { return u.Lot == lot }) {
		return nil
	}
	reached := []int{lot}
	for before := 0; before < len(reached); {
		before = len(reached)
		for _, u := range list {
			for _, v := range list {
				if u.Bread == v.Bread && slices.Contains(reached, u.Lot) && !slices.Contains(reached, v.Lot) {
					reached = append(reached, v.Lot)
				}
			}
		}
	}
	slices.Sort(reached)
	return reached
}

// What is reached reaches back, and reaches the same.
func TestReached(t *testing.T) {
	cases := []struct {
		lot  int
		want []int
	}{{1, []int{1, 2, 4}}, {2, []int{1, 2, 4}}, {4, []int{1, 2, 4}}, {3, []int{3}}, {5, nil}}
	for _, c := range cases {
		if got := impl.Reached(fiveUses(), c.lot); !slices.Equal(got, c.want) {
			t.Errorf("Reached(%d) = %v, want %v", c.lot, got, c.want)
		}
	}
	for _, list := range useLists() {
		for lot := 1; lot <= 50; lot++ {
			got := impl.Reached(list, lot)
			if want := reachedBySteps(list, lot); !slices.Equal(got, want) {
				t.Errorf("Reached(%v, %d) = %v, want %v", list, lot, got, want)
			}
			for _, other := range got {
				if back := impl.Reached(list, other); !slices.Equal(back, got) {
					t.Errorf("Reached(%v, %d) = %v, but Reached of %d = %v", list, lot, got, other, back)
				}
			}
		}
	}
}

func TestSuspects(t *testing.T) {
	cases := []struct{ bad, want []int }{
		{[]int{5, 6}, []int{2}}, {[]int{6, 5}, []int{2}}, {[]int{6, 5, 6, 6, 5}, []int{2}}, {[]int{5}, []int{1}}, {[]int{6}, []int{4}}, {[]int{7}, []int{3}}, {[]int{7, 7}, []int{3}}, {[]int{5, 6, 7}, nil}, {[]int{5, 7}, nil}, {repeated(50, 7), []int{3}}, {repeated(51, 7), nil},
	}
	for _, c := range cases {
		if got := impl.Suspects(fiveUses(), c.bad); !slices.Equal(got, c.want) {
			t.Errorf("Suspects(%v) = %v, want %v", c.bad, got, c.want)
		}
	}
	several := []impl.Use{{Lot: 50, Bread: 50, Grams: 1}, {Lot: 1, Bread: 50, Grams: 1}, {Lot: 1, Bread: 50, Grams: 1}, {Lot: 9, Bread: 50, Grams: 1}, {Lot: 9, Bread: 1, Grams: 1}}
	if got := impl.Suspects(several, []int{50}); !slices.Equal(got, []int{1, 50}) {
		t.Errorf("Suspects(%v, [50]) = %v, want [1 50]", several, got)
	}
	for _, list := range [][]impl.Use{nil, fiveUses()} {
		bad := [][]int{nil, {}, repeated(51, 5), repeated(500, 5)}
		for _, n := range outside(1, 50) {
			bad = append(bad, []int{n}, []int{n, 5}, []int{5, 6, n})
		}
		for _, b := range bad {
			if got := impl.Suspects(list, b); got != nil {
				t.Errorf("Suspects(%v, %v) = %v, want nil", list, b, got)
			}
		}
	}
}

func TestSuspectsByTrying(t *testing.T) {
	for k, list := range useLists() {
		for _, bad := range [][]int{{1}, {k%50 + 1}, {1, 2}, {3, 1, 2}, {2, 2, 5}, {7, 9}, {9}} {
			var want []int
			for lot := 1; lot <= 50; lot++ {
				suspect := true
				for bread := 1; bread <= 50; bread++ {
					suspect = suspect && used(list, lot, bread) == slices.Contains(bad, bread)
				}
				if suspect {
					want = append(want, lot)
				}
			}
			if got := impl.Suspects(list, bad); !slices.Equal(got, want) {
				t.Errorf("Suspects(%v, %v) = %v, want %v", list, bad, got, want)
			}
		}
	}
}

func TestUsesAreNotChanged(t *testing.T) {
	list, bad := fiveUses(), []int{6, 5, 6}
	mark := impl.Use{Lot: 7}
	given, b := withSpare(list, mark), withSpare(bad, 77)
	clear(impl.BreadsOf(given, 2))
	clear(impl.LotsOf(given, 6))
	clear(impl.Reached(given, 1))
	impl.UsedOf(given, 2)
	clear(impl.Suspects(given, b))
	checkUntouched(t, given, list, mark)
	checkUntouched(t, b, bad, 77)
}
