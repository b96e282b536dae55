package tests

import (
	"math/rand/v2"
	"slices"
	"sync"
	"testing"

	"loop.example/g03310/impl"
)

// openBakery has flour 4000, water 3000, salt 100 and leaven 800, and a loaf
// takes 589 grams of dough.
func openBakery(t *testing.T, money int) impl.Bakery {
	t.Helper()
	b, ok := impl.OpenBakery([]int{4000, 3000, 100, 800}, plainDough(), impl.Loaf{Weight: 500, Loss: 15}, money)
	if !ok {
		t.Fatal("OpenBakery = false")
	}
	return b
}

// sameBakery reports whether a is the bakery b, in memory of its own.
func sameBakery(a impl.Bakery, b impl.Bakery) bool {
	return sameStock(a.Stock, b.Stock) && a.Dough == b.Dough && a.Loaf == b.Loaf && sameBook(a.Book, b.Book) && a.Money == b.Money
}

// badBakeries have one part that is not valid.
func badBakeries(t *testing.T) []impl.Bakery {
	good, _ := impl.BakeLoaves(openBakery(t, 50), 4)
	list := []impl.Bakery{{}}
	for _, s := range badStocks() {
		b := good
		b.Stock = s
		list = append(list, b)
	}
	for _, d := range badDoughs() {
		b := good
		b.Dough = d
		list = append(list, b)
	}
	for _, n := range outside(10, 5000) {
		b := good
		b.Loaf.Weight = n
		list = append(list, b)
	}
	for _, n := range outside(0, 40) {
		b := good
		b.Loaf.Loss = n
		list = append(list, b)
	}
	for _, n := range outside(0, 1000000) {
		b := good
		b.Money = n
		list = append(list, b)
	}
	sold, baked, events := good, good, good
	sold.Book.Sold++
	baked.Book.Baked--
	events.Book = impl.Book{Events: repeated(41, impl.Event{Kind: impl.EvMorning})}
	return append(list, sold, baked, events)
}

func TestBakeryOk(t *testing.T) {
	for _, money := range []int{0, 1, 1000000} {
		if b := openBakery(t, money); !impl.BakeryOk(b) {
			t.Errorf("BakeryOk(%v) = false", b)
		}
	}
	for _, b := range badBakeries(t) {
		if impl.BakeryOk(b) {
			t.Errorf("BakeryOk(%v) = true", b)
		}
		if got := impl.FlourNeeded(b, 1); got != -1 {
			t.Errorf("FlourNeeded(%v, 1) = %d, want -1", b, got)
		}
		if got := impl.FlourNeeded(b, 0); got != -1 {
			t.Errorf("FlourNeeded(%v, 0) = %d, want -1", b, got)
		}
		for name, do := range map[string]func(b impl.Bakery) (impl.Bakery, bool){
			"BakeLoaves":          func(b impl.Bakery) (impl.Bakery, bool) { return impl.BakeLoaves(b, 1) },
			"BakeLoaves of none":  func(b impl.Bakery) (impl.Bakery, bool) { return impl.BakeLoaves(b, 0) },
			"SellLoaves":          func(b impl.Bakery) (impl.Bakery, bool) { return impl.SellLoaves(b, 1, false) },
			"SellLoaves of none":  func(b impl.Bakery) (impl.Bakery, bool) { return impl.SellLoaves(b, 0, true) },
			"NightOver":           impl.NightOver,
			"BuyStock":            func(b impl.Bakery) (impl.Bakery, bool) { return impl.BuyStock(b, 1, 100) },
			"BuyStock of nothing": func(b impl.Bakery) (impl.Bakery, bool) { return impl.BuyStock(b, 0, 0) },
		} {
			if got, ok := do(b); ok || !sameBakery(got, b) {
				t.Errorf("%s(%v) = %v, %v; want it unchanged, false", name, b, got, ok)
			}
		}
	}
}

func TestOpenBakery(t *testing.T) {
	grams := []int{4000, 3000, 100, 800}
	d, l := plainDough(), impl.Loaf{Weight: 500, Loss: 15}
	want := impl.Bakery{Stock: impl.Stock{Grams: grams}, Dough: d, Loaf: l, Money: 50}
	got, ok := impl.OpenBakery(grams, d, l, 50)
	if !ok || !sameBakery(got, want) {
		t.Errorf("OpenBakery = %v, %v; want %v, true", got, ok, want)
	}
	for _, b := range badBakeries(t) {
		b.Book = impl.Book{}
		if impl.BakeryOk(b) {
			continue
		}
		got, ok := impl.OpenBakery(b.Stock.Grams, b.Dough, b.Loaf, b.Money)
		if ok || got.Stock.Grams != nil || !sameBakery(got, impl.Bakery{}) {
			t.Errorf("OpenBakery of %v = %v, %v; want the zero Bakery, false", b, got, ok)
		}
	}
	given := withSpare(grams, -7)
	b, _ := impl.OpenBakery(given, d, l, 50)
	b.Stock.Grams[0] = 99
	checkUntouched(t, given, grams, -7)
}

func TestFlourNeeded(t *testing.T) {
	b := openBakery(t, 50)
	for _, c := range [][2]int{{4, 1260}, {0, 0}, {1, 315}, {2, 630}, {12, 3780}, {13, 4095}, {1000, 314974}} {
		if got := impl.FlourNeeded(b, c[0]); got != c[1] {
			t.Errorf("FlourNeeded(%v, %d) = %d, want %d", b, c[0], got, c[1])
		}
	}
	for _, n := range outside(0, 1000) {
		if got := impl.FlourNeeded(b, n); got != -1 {
			t.Errorf("FlourNeeded(%v, %d) = %d, want -1", b, n, got)
		}
	}
	// A dough of more than 1000000 grams is too much.
	b.Loaf = impl.Loaf{Weight: 1000}
	if a, c := impl.FlourNeeded(b, 1000), impl.FlourNeeded(b, 999); a != 534760 || c != 534225 {
		t.Errorf("FlourNeeded of 1000 and 999 large loaves = %d and %d, want 534760 and 534225", a, c)
	}
	b.Loaf = impl.Loaf{Weight: 1001}
	if a, c := impl.FlourNeeded(b, 1000), impl.FlourNeeded(b, 999); a != -1 || c != 534759 {
		t.Errorf("FlourNeeded of 1000 and 999 larger loaves = %d and %d, want -1 and 534759", a, c)
	}
	b.Loaf = impl.Loaf{Weight: 5000, Loss: 40}
	if a, c := impl.FlourNeeded(b, 1000), impl.FlourNeeded(b, 120); a != -1 || c != -1 {
		t.Errorf("FlourNeeded of 1000 and 120 of the largest loaves = %d and %d, want -1", a, c)
	}
	if got := impl.FlourNeeded(b, 119); got != impl.FlourFor(plainDough(), 119*impl.DoughFor(b.Loaf)) || got < 0 {
		t.Errorf("FlourNeeded of 119 of the largest loaves = %d", got)
	}
	if got, ok := impl.BakeLoaves(b, 1000); ok || !sameBakery(got, b) {
		t.Errorf("BakeLoaves of too much dough = %v, %v", got, ok)
	}
}

// Nothing is baked without flour.
func TestBakeLoaves(t *testing.T) {
	b := openBakery(t, 50)
	got, ok := impl.BakeLoaves(b, 4)
	if !ok || !slices.Equal(got.Stock.Grams, []int{2740, 2181, 75, 548}) || got.Book.Rack != (impl.Rack{Fresh: 4}) || got.Book.Baked != 4 || got.Money != 50 || got.Dough != b.Dough || got.Loaf != b.Loaf {
		t.Errorf("BakeLoaves(%v, 4) = %v, %v", b, got, ok)
	}
	if got, ok := impl.BakeLoaves(b, 12); !ok || !slices.Equal(got.Stock.Grams, []int{220, 543, 24, 44}) {
		t.Errorf("BakeLoaves(%v, 12) = %v, %v", b, got, ok)
	}
	if got, ok := impl.BakeLoaves(b, 0); !ok || !slices.Equal(got.Stock.Grams, b.Stock.Grams) || len(got.Book.Events) != 1 {
		t.Errorf("BakeLoaves(%v, 0) = %v, %v", b, got, ok)
	}
	for _, n := range append(outside(0, 1000), 13, 14, 1000) {
		if got, ok := impl.BakeLoaves(b, n); ok || !sameBakery(got, b) {
			t.Errorf("BakeLoaves(%v, %d) = %v, %v; want it unchanged, false", b, n, got, ok)
		}
	}
	// Too little of one thing is too little, whatever it is.
	for k, needed := range []int{1260, 819, 25, 252} {
		grams := []int{4000, 3000, 100, 800}
		grams[k] = needed
		enough, _ := impl.OpenBakery(grams, b.Dough, b.Loaf, 50)
		if got, ok := impl.BakeLoaves(enough, 4); !ok || got.Stock.Grams[k] != 0 {
			t.Errorf("BakeLoaves(%v, 4) = %v, %v", enough, got, ok)
		}
		grams[k] = needed - 1
		less, _ := impl.OpenBakery(grams, b.Dough, b.Loaf, 50)
		if got, ok := impl.BakeLoaves(less, 4); ok || !sameBakery(got, less) {
			t.Errorf("BakeLoaves(%v, 4) = %v, %v; want it unchanged, false", less, got, ok)
		}
	}
}

// Nothing is sold that is not there.
func TestSellLoaves(t *testing.T) {
	baked, _ := impl.BakeLoaves(openBakery(t, 50), 4)
	sold, ok := impl.SellLoaves(baked, 3, false)
	if !ok || sold.Money != 62 || sold.Book.Rack != (impl.Rack{Fresh: 1}) || sold.Book.Sold != 3 || !slices.Equal(sold.Stock.Grams, baked.Stock.Grams) {
		t.Errorf("SellLoaves(%v, 3, false) = %v, %v", baked, sold, ok)
	}
	if got, ok := impl.SellLoaves(baked, 4, false); !ok || got.Money != 66 {
		t.Errorf("SellLoaves(%v, 4, false) = %v, %v", baked, got, ok)
	}
	for _, n := range append(outside(0, 1000), 5, 1000) {
		for _, cheap := range []bool{false, true} {
			if got, ok := impl.SellLoaves(baked, n, cheap); ok || !sameBakery(got, baked) {
				t.Errorf("SellLoaves(%v, %d, %v) = %v, %v; want it unchanged, false", baked, n, cheap, got, ok)
			}
		}
	}
	// Fresh bread is not cheap.
	if got, ok := impl.SellLoaves(baked, 1, true); ok || !sameBakery(got, baked) {
		t.Errorf("SellLoaves(%v, 1, true) = %v, %v; want it unchanged, false", baked, got, ok)
	}
	day, _ := impl.NightOver(baked)
	if got, ok := impl.SellLoaves(day, 3, true); !ok || got.Money != 56 || got.Book.Rack != (impl.Rack{Day: 1}) {
		t.Errorf("SellLoaves(%v, 3, true) = %v, %v", day, got, ok)
	}
	if got, ok := impl.SellLoaves(day, 3, false); !ok || got.Money != 62 || got.Book.Rack != (impl.Rack{Day: 1}) {
		t.Errorf("SellLoaves(%v, 3, false) = %v, %v", day, got, ok)
	}
	for _, cheap := range []bool{false, true} {
		if got, ok := impl.SellLoaves(baked, 0, cheap); !ok || got.Money != 50 || got.Book.Rack != baked.Book.Rack || len(got.Book.Events) != 2 {
			t.Errorf("SellLoaves(%v, 0, %v) = %v, %v", baked, cheap, got, ok)
		}
	}
}

func TestMostMoney(t *testing.T) {
	for _, c := range []struct {
		money int
		n     int
		cheap bool
		ok    bool
	}{
		{1000000 - 12, 3, false, true}, {1000000 - 11, 3, false, false}, {1000000 - 6, 3, true, true}, {1000000 - 5, 3, true, false}, {1000000, 0, false, true}, {1000000, 1, true, false},
	} {
		b, _ := impl.BakeLoaves(openBakery(t, c.money), 4)
		b, _ = impl.NightOver(b)
		got, ok := impl.SellLoaves(b, c.n, c.cheap)
		if ok != c.ok || ok && got.Money != 1000000 || !ok && !sameBakery(got, b) {
			t.Errorf("SellLoaves(%v, %d, %v) = %v, %v; want %v", b, c.n, c.cheap, got, ok, c.ok)
		}
	}
}

func TestNightOver(t *testing.T) {
	baked, _ := impl.BakeLoaves(openBakery(t, 50), 4)
	want := []impl.Rack{{Day: 4}, {Old: 4}, {}, {}}
	b := baked
	for i, rack := range want {
		next, ok := impl.NightOver(b)
		if !ok || next.Book.Rack != rack || impl.DaysIn(next.Book) != i+1 || next.Money != 50 || !slices.Equal(next.Stock.Grams, baked.Stock.Grams) {
			t.Errorf("NightOver(%v) = %v, %v; want the rack %v", b, next, ok, rack)
		}
		b = next
	}
	if b.Book.Thrown != 4 {
		t.Errorf("after 4 nights, %d loaves were thrown away, want 4", b.Book.Thrown)
	}
}

// After the fortieth event, the bakery can just buy.
func TestFullBook(t *testing.T) {
	b := openBakery(t, 50)
	for range 40 {
		b, _ = impl.NightOver(b)
	}
	if len(b.Book.Events) != 40 {
		t.Fatalf("there are %d events, want 40", len(b.Book.Events))
	}
	for name, do := range map[string]func(b impl.Bakery) (impl.Bakery, bool){
		"BakeLoaves": func(b impl.Bakery) (impl.Bakery, bool) { return impl.BakeLoaves(b, 1) },
		"SellLoaves": func(b impl.Bakery) (impl.Bakery, bool) { return impl.SellLoaves(b, 0, false) },
		"NightOver":  impl.NightOver,
	} {
		if got, ok := do(b); ok || !sameBakery(got, b) {
			t.Errorf("%s with a full book = %v, %v; want it unchanged, false", name, got, ok)
		}
	}
	if got, ok := impl.BuyStock(b, 0, 100); !ok || got.Money != 49 {
		t.Errorf("BuyStock with a full book = %v, %v", got, ok)
	}
}

func TestBuyStock(t *testing.T) {
	b := openBakery(t, 50)
	for _, c := range []struct{ k, grams, money int }{
		{0, 250, 47}, {0, 0, 50}, {1, 1, 49}, {2, 100, 49}, {3, 101, 48}, {3, 199, 48}, {3, 200, 48}, {0, 4999, 0}, {0, 5000, 0}, {1, 4900, 1}, {1, 4901, 0},
	} {
		want := slices.Clone(b.Stock.Grams)
		want[c.k] += c.grams
		if got, ok := impl.BuyStock(b, c.k, c.grams); !ok || !slices.Equal(got.Stock.Grams, want) || got.Money != c.money || len(got.Book.Events) != 0 {
			t.Errorf("BuyStock(%v, %d, %d) = %v, %v; want %v and the money %d", b, c.k, c.grams, got, ok, want, c.money)
		}
	}
	bad := [][2]int{{0, 5001}, {3, 5001}, {0, 100000}, {0, 996001}, {0, 1000000}}
	for _, k := range outside(0, 3) {
		bad = append(bad, [2]int{k, 100}, [2]int{k, 0})
	}
	for _, grams := range outside(0, 1000000) {
		bad = append(bad, [2]int{0, grams})
	}
	for _, c := range bad {
		if got, ok := impl.BuyStock(b, c[0], c[1]); ok || !sameBakery(got, b) {
			t.Errorf("BuyStock(%v, %d, %d) = %v, %v; want it unchanged, false", b, c[0], c[1], got, ok)
		}
	}
	rich := openBakery(t, 1000000)
	if got, ok := impl.BuyStock(rich, 0, 996000); !ok || got.Stock.Grams[0] != 1000000 || got.Money != 990040 {
		t.Errorf("BuyStock(%v, 0, 996000) = %v, %v", rich, got, ok)
	}
	for _, grams := range append(outside(0, 1000000), 996001, -100, -4000) {
		if got, ok := impl.BuyStock(rich, 0, grams); ok || !sameBakery(got, rich) {
			t.Errorf("BuyStock(%v, 0, %d) = %v, %v; want it unchanged, false", rich, grams, got, ok)
		}
	}
}

// Without money, nothing can be bought, but bread can be baked and sold.
func TestNoMoney(t *testing.T) {
	b := openBakery(t, 0)
	for k := range 4 {
		if got, ok := impl.BuyStock(b, k, 1); ok || !sameBakery(got, b) {
			t.Errorf("BuyStock(%v, %d, 1) = %v, %v; want it unchanged, false", b, k, got, ok)
		}
		if got, ok := impl.BuyStock(b, k, 0); !ok || got.Money != 0 {
			t.Errorf("BuyStock(%v, %d, 0) = %v, %v; want true", b, k, got, ok)
		}
	}
	baked, ok := impl.BakeLoaves(b, 4)
	if !ok || baked.Money != 0 {
		t.Fatalf("BakeLoaves(%v, 4) = %v, %v", b, baked, ok)
	}
	sold, ok := impl.SellLoaves(baked, 1, false)
	if !ok || sold.Money != 4 {
		t.Fatalf("SellLoaves(%v, 1, false) = %v, %v", baked, sold, ok)
	}
	if got, ok := impl.BuyStock(sold, 0, 400); !ok || got.Money != 0 {
		t.Errorf("BuyStock(%v, 0, 400) = %v, %v", sold, got, ok)
	}
	if got, ok := impl.BuyStock(sold, 0, 401); ok || !sameBakery(got, sold) {
		t.Errorf("BuyStock(%v, 0, 401) = %v, %v; want it unchanged, false", sold, got, ok)
	}
}

// bakeryByHand is counted beside the bakery.
type bakeryByHand struct {
	grams []int
	shelf *shelfByHand
	money int
}

func (h bakeryByHand) agrees(b impl.Bakery) bool {
	return slices.Equal(h.grams, b.Stock.Grams) && h.money == b.Money && h.shelf.rack() == b.Book.Rack && h.shelf.baked == b.Book.Baked && h.shelf.sold == b.Book.Sold && h.shelf.thrown == b.Book.Thrown
}

// tryAct does to a copy what an act names, and reports whether it was possible.
func (h bakeryByHand) tryAct(a impl.Act) (bakeryByHand, bool) {
	next := bakeryByHand{slices.Clone(h.grams), h.shelf.copied(), h.money}
	switch a.Kind {
	case impl.AcBake:
		// 589 grams of dough for each loaf, of which 1870 parts have 1000 of flour.
		flour := (a.A*589*1000 + 1869) / 1870
		next.grams[0] -= flour
		next.grams[1] -= (flour*650 + 500) / 1000
		next.grams[2] -= (flour*20 + 500) / 1000
		next.grams[3] -= (flour*200 + 500) / 1000
		next.shelf.happen(impl.Event{Kind: impl.EvBake, Loaves: a.A})
		return next, slices.Min(next.grams) >= 0
	case impl.AcSell:
		next.money += 4 * a.A
		return next, next.shelf.happen(impl.Event{Kind: impl.EvSell, Loaves: a.A})
	case impl.AcCheap:
		next.money += 2 * a.A
		return next, next.shelf.happen(impl.Event{Kind: impl.EvCheap, Loaves: a.A})
	case impl.AcMorning:
		return next, next.shelf.happen(impl.Event{Kind: impl.EvMorning})
	}
	next.grams[a.A] += a.B
	next.money -= a.B / 100
	if a.B%100 > 0 {
		next.money--
	}
	return next, next.money >= 0 && next.grams[a.A] <= 1000000
}

// do performs an act that may change the bakery.
func do(b impl.Bakery, a impl.Act) (impl.Bakery, bool) {
	switch a.Kind {
	case impl.AcBake:
		return impl.BakeLoaves(b, a.A)
	case impl.AcSell:
		return impl.SellLoaves(b, a.A, false)
	case impl.AcCheap:
		return impl.SellLoaves(b, a.A, true)
	case impl.AcMorning:
		return impl.NightOver(b)
	}
	return impl.BuyStock(b, a.A, a.B)
}

// randomAct may change the bakery.
func randomAct(r *rand.Rand) impl.Act {
	a := impl.Act{Kind: 1 + r.IntN(5)}
	switch a.Kind {
	case impl.AcBuy:
		a.A, a.B = r.IntN(4), r.IntN(1500)
	case impl.AcMorning:
	default:
		a.A = r.IntN(9)
	}
	return a
}

func TestBakeryByHand(t *testing.T) {
	r := rand.New(rand.NewPCG(38, 0))
	for n := range 60 {
		b := openBakery(t, n)
		byHand := bakeryByHand{slices.Clone(b.Stock.Grams), &shelfByHand{}, n}
		for range 60 {
			a := randomAct(r)
			tried, possible := byHand.tryAct(a)
			if a.Kind != impl.AcBuy && len(b.Book.Events) == 40 {
				possible = false
			}
			next, ok := do(b, a)
			if ok != possible {
				t.Fatalf("%v in %v = %v, %v; want %v", a, b, next, ok, possible)
			}
			if !ok && !sameBakery(next, b) {
				t.Fatalf("%v in %v = %v, false", a, b, next)
			}
			if ok {
				b, byHand = next, tried
			}
			if !byHand.agrees(b) || !impl.BakeryOk(b) {
				t.Fatalf("after %v, the bakery is %v, but by hand it is %v", a, b, byHand)
			}
		}
	}
}

// Bakeries that are equal may be worked in at the same time.
func TestBakeryAtTheSameTime(t *testing.T) {
	b := openBakery(t, 50)
	var bakers sync.WaitGroup
	for n := range 20 {
		bakers.Add(1)
		go func() {
			defer bakers.Done()
			baked, ok := impl.BakeLoaves(b, n%12)
			sold, also := impl.SellLoaves(baked, n%12, false)
			if !ok || !also || sold.Money != 50+4*(n%12) {
				t.Errorf("BakeLoaves and SellLoaves of %d = %v, %v, %v", n%12, sold, ok, also)
			}
		}()
	}
	bakers.Wait()
}

func TestBakeriesAreNotChanged(t *testing.T) {
	b, _ := impl.BakeLoaves(openBakery(t, 50), 4)
	grams, events := slices.Clone(b.Stock.Grams), slices.Clone(b.Book.Events)
	mark := impl.Event{Kind: 77}
	b.Stock.Grams, b.Book.Events = withSpare(grams, -7), withSpare(events, mark)
	for _, a := range []impl.Act{{Kind: impl.AcBake, A: 2}, {Kind: impl.AcBake, A: 99}, {Kind: impl.AcSell, A: 2}, {Kind: impl.AcSell, A: 99}, {Kind: impl.AcCheap}, {Kind: impl.AcMorning}, {Kind: impl.AcBuy, B: 100}, {Kind: impl.AcBuy, A: 9}} {
		got, _ := do(b, a)
		got.Stock.Grams[0] = 99
		got.Book.Events[0].Loaves = 99
		got.Book.Events = append(got.Book.Events, impl.Event{Kind: 99})
		checkUntouched(t, b.Stock.Grams, grams, -7)
		checkUntouched(t, b.Book.Events, events, mark)
	}
}
