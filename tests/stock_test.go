package tests

import (
	"math/rand/v2"
	"slices"
	"testing"

	"loop.example/g03310/impl"
)

func plainStock() impl.Stock {
	return impl.Stock{Grams: []int{1000, 700, 25, 250}}
}

// someStocks are valid, empty and full, and with too little of each thing.
func someStocks() []impl.Stock {
	list := []impl.Stock{plainStock(), {Grams: []int{0, 0, 0, 0}}, {Grams: []int{1000000, 1000000, 1000000, 1000000}}, {Grams: []int{1000000, 0, 0, 0}}, {Grams: []int{1000000, 1000000, 0, 0}}, {Grams: []int{1000000, 1000000, 1000000, 0}}, {Grams: []int{0, 1000000, 1000000, 1000000}}, {Grams: []int{1000, 650, 20, 200}}, {Grams: []int{999, 649, 19, 199}}}
	r := rand.New(rand.NewPCG(36, 0))
	for n := range 60 {
		grams := make([]int, 4)
		for k := range grams {
			grams[k] = r.IntN(1+10<<(n%17)) % 1000001
		}
		list = append(list, impl.Stock{Grams: grams})
	}
	return list
}

// badStocks have too few numbers, too many, or one that is not in its range.
func badStocks() []impl.Stock {
	list := []impl.Stock{{}, {Grams: []int{}}, {Grams: []int{1000}}, {Grams: []int{1000, 700, 25}}, {Grams: []int{1000, 700, 25, 250, 0}}, {Grams: []int{1000, 700, 25, 250, 1}}, {Grams: repeated(100, 1000)}}
	for _, n := range outside(0, 1000000) {
		list = append(list, impl.Stock{Grams: []int{n, 700, 25, 250}}, impl.Stock{Grams: []int{1000, n, 25, 250}}, impl.Stock{Grams: []int{1000, 700, n, 250}}, impl.Stock{Grams: []int{1000, 700, 25, n}}, impl.Stock{Grams: []int{n, n, n, n}})
	}
	return list
}

// sameStock reports whether a has the grams of b, in memory of its own.
func sameStock(a impl.Stock, b impl.Stock) bool {
	if !slices.Equal(a.Grams, b.Grams) {
		return false
	}
	return len(a.Grams) == 0 || &a.Grams[0] != &b.Grams[0]
}

func TestStoreOk(t *testing.T) {
	for _, s := range someStocks() {
		if !impl.StoreOk(s) {
			t.Errorf("StoreOk(%v) = false", s)
		}
	}
	d := plainDough()
	for _, s := range badStocks() {
		if impl.StoreOk(s) {
			t.Errorf("StoreOk(%v) = true", s)
		}
		for _, flour := range []int{0, 1, 1000} {
			if got, ok := impl.TakeFor(s, d, flour); ok || !sameStock(got, s) {
				t.Errorf("TakeFor(%v, %v, %d) = %v, %v; want it unchanged, false", s, d, flour, got, ok)
			}
			if got := impl.FirstMissing(s, d, flour); got != -1 {
				t.Errorf("FirstMissing(%v, %v, %d) = %d, want -1", s, d, flour, got)
			}
			if got := impl.MustBuy(s, []impl.Dough{d}, []int{flour}); len(got) != 0 {
				t.Errorf("MustBuy(%v) = %v, want nothing", s, got)
			}
		}
		if got := impl.MostFlour(s, d); got != -1 {
			t.Errorf("MostFlour(%v, %v) = %d, want -1", s, d, got)
		}
		for k := range 4 {
			if got, ok := impl.FillStock(s, k, 5); ok || !sameStock(got, s) {
				t.Errorf("FillStock(%v, %d, 5) = %v, %v; want it unchanged, false", s, k, got, ok)
			}
			if got, ok := impl.FillStock(s, k, 0); ok || !sameStock(got, s) {
				t.Errorf("FillStock(%v, %d, 0) = %v, %v; want it unchanged, false", s, k, got, ok)
			}
		}
		if got := impl.MustBuy(s, nil, nil); len(got) != 0 {
			t.Errorf("MustBuy(%v) of no doughs = %v, want nothing", s, got)
		}
	}
}

// leftByHand returns what is left of a stock, which may be below 0.
func leftByHand(s impl.Stock, d impl.Dough, flour int) []int {
	left := slices.Clone(s.Grams)
	left[0] -= flour
	left[1] -= (2*flour*d.Water + 1000) / 2000
	left[2] -= (2*flour*d.Salt + 1000) / 2000
	left[3] -= (2*flour*d.Leaven + 1000) / 2000
	return left
}

func TestTakeFor(t *testing.T) {
	d := plainDough()
	cases := []struct {
		flour int
		want  []int
		ok    bool
	}{
		{1000, []int{0, 50, 5, 50}, true}, {1001, plainStock().Grams, false}, {0, plainStock().Grams, true}, {1, []int{999, 699, 25, 250}, true}, {500, []int{500, 375, 15, 150}, true},
	}
	for _, c := range cases {
		if got, ok := impl.TakeFor(plainStock(), d, c.flour); ok != c.ok || !slices.Equal(got.Grams, c.want) {
			t.Errorf("TakeFor(%v, %v, %d) = %v, %v; want %v, %v", plainStock(), d, c.flour, got, ok, c.want, c.ok)
		}
	}
	for _, s := range someStocks() {
		for _, d := range weighedDoughs() {
			for _, flour := range []int{0, 1, 19, 500, s.Grams[0], min(1000000, s.Grams[0]+1), 1000000} {
				want := leftByHand(s, d, flour)
				missing := slices.IndexFunc(want, func(grams int) bool { return grams < 0 })
				got, ok := impl.TakeFor(s, d, flour)
				if ok != (missing < 0) || ok && !slices.Equal(got.Grams, want) || !ok && !sameStock(got, s) {
					t.Errorf("TakeFor(%v, %v, %d) = %v, %v; want %v", s, d, flour, got, ok, want)
				}
				if first := impl.FirstMissing(s, d, flour); first != missing {
					t.Errorf("FirstMissing(%v, %v, %d) = %d, want %d", s, d, flour, first, missing)
				}
			}
		}
	}
}

func TestFirstMissing(t *testing.T) {
	d := plainDough()
	cases := []struct {
		grams []int
		flour int
		want  int
	}{
		{[]int{1000, 700, 25, 250}, 1100, 0}, {[]int{1000, 700, 25, 250}, 900, -1}, {[]int{1000, 650, 20, 200}, 1000, -1}, {[]int{999, 650, 20, 200}, 1000, 0}, {[]int{1000, 649, 20, 200}, 1000, 1}, {[]int{1000, 650, 19, 200}, 1000, 2}, {[]int{1000, 650, 20, 199}, 1000, 3}, {[]int{1000, 649, 19, 199}, 1000, 1}, {[]int{1000, 650, 19, 199}, 1000, 2}, {[]int{0, 0, 0, 0}, 1, 0}, {[]int{0, 0, 0, 0}, 0, -1}, {[]int{1, 0, 0, 0}, 1, 1},
	}
	for _, c := range cases {
		s := impl.Stock{Grams: c.grams}
		if got := impl.FirstMissing(s, d, c.flour); got != c.want {
			t.Errorf("FirstMissing(%v, %v, %d) = %d, want %d", s, d, c.flour, got, c.want)
		}
		if got, ok := impl.TakeFor(s, d, c.flour); ok != (c.want < 0) {
			t.Errorf("TakeFor(%v, %v, %d) = %v, %v", s, d, c.flour, got, ok)
		}
	}
}

// The most flour can be taken, one gram more cannot.
func TestMostFlour(t *testing.T) {
	cases := []struct {
		grams []int
		dough impl.Dough
		want  int
	}{
		{plainStock().Grams, plainDough(), 1000}, {[]int{1000, 600, 25, 250}, plainDough(), 923}, {[]int{1000, 700, 10, 250}, plainDough(), 524}, {[]int{1000, 700, 25, 100}, plainDough(), 502}, {[]int{0, 0, 0, 0}, plainDough(), 0}, {[]int{1000000, 1000000, 1000000, 1000000}, impl.Dough{Water: 300}, 1000000}, {[]int{1000000, 1000000, 1000000, 1000000}, plainDough(), 1000000}, {[]int{1000000, 1000000, 1000000, 1000000}, impl.Dough{Water: 1200}, 833333}, {[]int{1000000, 0, 0, 0}, impl.Dough{Water: 300}, 1}, {[]int{999999, 1000000, 0, 0}, impl.Dough{Water: 300}, 999999}, {[]int{1000000, 1000000, 0, 1000000}, plainDough(), 24}, {[]int{1000000, 1000000, 1000000, 0}, plainDough(), 2},
	}
	for _, c := range cases {
		if got := impl.MostFlour(impl.Stock{Grams: c.grams}, c.dough); got != c.want {
			t.Errorf("MostFlour(%v, %v) = %d, want %d", c.grams, c.dough, got, c.want)
		}
	}
	for _, s := range someStocks() {
		for _, d := range weighedDoughs() {
			got := impl.MostFlour(s, d)
			if got < 0 || got > 1000000 || slices.Min(leftByHand(s, d, got)) < 0 {
				t.Errorf("MostFlour(%v, %v) = %d cannot be taken", s, d, got)
			}
			if got < 1000000 && slices.Min(leftByHand(s, d, got+1)) >= 0 {
				t.Errorf("MostFlour(%v, %v) = %d, and one gram more can be taken", s, d, got)
			}
			if _, ok := impl.TakeFor(s, d, got); !ok {
				t.Errorf("TakeFor(%v, %v, %d) = false", s, d, got)
			}
			if _, ok := impl.TakeFor(s, d, got+1); ok {
				t.Errorf("TakeFor(%v, %v, %d) = true", s, d, got+1)
			}
		}
	}
}

// A dough without leaven takes none, and needs none.
func TestStockForDoughsWithoutLeaven(t *testing.T) {
	s := impl.Stock{Grams: []int{1000, 700, 20, 0}}
	d := impl.Dough{Water: 650, Salt: 20}
	if got, ok := impl.TakeFor(s, d, 1000); !ok || !slices.Equal(got.Grams, []int{0, 50, 0, 0}) {
		t.Errorf("TakeFor(%v, %v, 1000) = %v, %v", s, d, got, ok)
	}
	if a, b := impl.MostFlour(s, d), impl.FirstMissing(s, d, 1000); a != 1000 || b != -1 {
		t.Errorf("MostFlour and FirstMissing of %v and %v = %d and %d, want 1000 and -1", s, d, a, b)
	}
	if a, b := impl.MostFlour(s, plainDough()), impl.FirstMissing(s, plainDough(), 1000); a != 2 || b != 3 {
		t.Errorf("MostFlour and FirstMissing of %v with leaven = %d and %d, want 2 and 3", s, a, b)
	}
	if got := impl.MustBuy(s, []impl.Dough{d, d}, []int{1000, 500}); !slices.Equal(got, []int{500, 275, 10, 0}) {
		t.Errorf("MustBuy(%v) without leaven = %v, want [500 275 10 0]", s, got)
	}
}

func TestStockRejects(t *testing.T) {
	s := plainStock()
	check := func(d impl.Dough, flour int) {
		t.Helper()
		if got, ok := impl.TakeFor(s, d, flour); ok || !sameStock(got, s) {
			t.Errorf("TakeFor(%v, %v, %d) = %v, %v; want it unchanged, false", s, d, flour, got, ok)
		}
		if got := impl.FirstMissing(s, d, flour); got != -1 {
			t.Errorf("FirstMissing(%v, %v, %d) = %d, want -1", s, d, flour, got)
		}
		for _, doughs := range [][]impl.Dough{{d}, {d, plainDough()}, {plainDough(), d}} {
			flours := repeated(len(doughs), 10)
			flours[slices.Index(doughs, d)] = flour
			if got := impl.MustBuy(s, doughs, flours); len(got) != 0 {
				t.Errorf("MustBuy(%v, %v, %v) = %v, want nothing", s, doughs, flours, got)
			}
		}
	}
	for _, d := range badDoughs() {
		check(d, 0)
		check(d, 100)
		if got := impl.MostFlour(s, d); got != -1 {
			t.Errorf("MostFlour(%v, %v) = %d, want -1", s, d, got)
		}
	}
	for _, n := range outside(0, 1000000) {
		check(plainDough(), n)
		check(impl.Dough{Water: 300}, n)
	}
}

func TestFillStock(t *testing.T) {
	cases := []struct {
		k, grams int
		want     []int
	}{
		{2, 5, []int{1000, 700, 30, 250}}, {0, 5, []int{1005, 700, 25, 250}}, {1, 5, []int{1000, 705, 25, 250}}, {3, 5, []int{1000, 700, 25, 255}}, {0, 0, []int{1000, 700, 25, 250}}, {0, 999000, []int{1000000, 700, 25, 250}}, {3, 999750, []int{1000, 700, 25, 1000000}},
	}
	for _, c := range cases {
		if got, ok := impl.FillStock(plainStock(), c.k, c.grams); !ok || !slices.Equal(got.Grams, c.want) {
			t.Errorf("FillStock(%v, %d, %d) = %v, %v; want %v, true", plainStock(), c.k, c.grams, got, ok, c.want)
		}
	}
	empty := impl.Stock{Grams: []int{0, 0, 0, 0}}
	if got, ok := impl.FillStock(empty, 1, 1000000); !ok || !slices.Equal(got.Grams, []int{0, 1000000, 0, 0}) {
		t.Errorf("FillStock of an empty stock = %v, %v", got, ok)
	}
	bad := [][2]int{{0, 999001}, {1, 999301}, {2, 999976}, {3, 999751}, {0, 1000000}}
	for _, k := range outside(0, 3) {
		bad = append(bad, [2]int{k, 5}, [2]int{k, 0})
	}
	for _, grams := range outside(0, 1000000) {
		bad = append(bad, [2]int{0, grams}, [2]int{3, grams})
	}
	bad = append(bad, [2]int{0, -1000}, [2]int{2, -5})
	for _, c := range bad {
		s := plainStock()
		if got, ok := impl.FillStock(s, c[0], c[1]); ok || !sameStock(got, s) {
			t.Errorf("FillStock(%v, %d, %d) = %v, %v; want it unchanged, false", s, c[0], c[1], got, ok)
		}
	}
	for _, grams := range outside(0, 1000000) {
		if got, ok := impl.FillStock(empty, 1, grams); ok || !sameStock(got, empty) {
			t.Errorf("FillStock(%v, 1, %d) = %v, %v; want it unchanged, false", empty, grams, got, ok)
		}
	}
}

// What must be bought is enough, and a gram less is not.
func TestMustBuy(t *testing.T) {
	d, e := plainDough(), impl.Dough{Water: 1200, Salt: 50, Leaven: 500}
	cases := []struct {
		doughs []impl.Dough
		flours []int
		want   []int
	}{
		{[]impl.Dough{d}, []int{1500}, []int{500, 275, 5, 50}}, {nil, nil, []int{0, 0, 0, 0}}, {[]impl.Dough{d}, []int{1000}, []int{0, 0, 0, 0}}, {[]impl.Dough{d}, []int{1001}, []int{1, 0, 0, 0}}, {[]impl.Dough{d}, []int{0}, []int{0, 0, 0, 0}}, {[]impl.Dough{d, e}, []int{500, 500}, []int{0, 225, 10, 100}}, {[]impl.Dough{d, d}, []int{500, 500}, []int{0, 0, 0, 0}}, {[]impl.Dough{d, d}, []int{501, 500}, []int{1, 0, 0, 0}}, {repeated(10, e), repeated(10, 1000000), []int{9999000, 11999300, 499975, 4999750}},
	}
	for _, c := range cases {
		if got := impl.MustBuy(plainStock(), c.doughs, c.flours); !slices.Equal(got, c.want) {
			t.Errorf("MustBuy(%v, %v, %v) = %v, want %v", plainStock(), c.doughs, c.flours, got, c.want)
		}
	}
	bad := []struct {
		doughs []impl.Dough
		flours []int
	}{
		{[]impl.Dough{d}, nil}, {nil, []int{5}}, {[]impl.Dough{d}, []int{5, 5}}, {[]impl.Dough{d, d}, []int{5}}, {repeated(11, d), repeated(11, 5)}, {repeated(11, d), repeated(10, 5)}, {repeated(200, d), repeated(200, 0)},
	}
	for _, c := range bad {
		if got := impl.MustBuy(plainStock(), c.doughs, c.flours); len(got) != 0 {
			t.Errorf("MustBuy(%v, %v, %v) = %v, want nothing", plainStock(), c.doughs, c.flours, got)
		}
	}
	r := rand.New(rand.NewPCG(36, 1))
	for _, s := range someStocks() {
		for n := range 11 {
			needed := make([]int, 4)
			var doughs []impl.Dough
			var flours []int
			for range n {
				doughs = append(doughs, impl.Dough{Water: 300 + r.IntN(901), Salt: r.IntN(51), Leaven: r.IntN(501)})
				flours = append(flours, r.IntN(1+s.Grams[0]))
				for k, grams := range impl.Amounts(doughs[len(doughs)-1], flours[len(flours)-1]) {
					needed[k] += grams
				}
			}
			got := impl.MustBuy(s, doughs, flours)
			for k, grams := range needed {
				if len(got) != 4 || got[k] < 0 || s.Grams[k]+got[k] < grams || got[k] > 0 && s.Grams[k]+got[k] > grams {
					t.Fatalf("MustBuy(%v, %v, %v) = %v, but %v are needed", s, doughs, flours, got, needed)
				}
			}
		}
	}
}

func TestStocksAreNotChanged(t *testing.T) {
	d := plainDough()
	grams := plainStock().Grams
	given := impl.Stock{Grams: withSpare(grams, -7)}
	doughs, flours := withSpare([]impl.Dough{d, d}, impl.Dough{Water: 77}), withSpare([]int{1000, 500}, -7)
	for _, flour := range []int{500, 2000, -1} {
		got, _ := impl.TakeFor(given, d, flour)
		got.Grams[0] = 99
		impl.FirstMissing(given, d, flour)
	}
	for _, n := range []int{5, 2000000} {
		got, _ := impl.FillStock(given, 0, n)
		got.Grams[0] = 99
	}
	impl.MostFlour(given, d)
	impl.MustBuy(given, doughs, flours)
	checkUntouched(t, given.Grams, grams, -7)
	checkUntouched(t, doughs, []impl.Dough{d, d}, impl.Dough{Water: 77})
	checkUntouched(t, flours, []int{1000, 500}, -7)
}
