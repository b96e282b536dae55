package tests

import (
	"math"
	"math/rand/v2"
	"slices"
	"strconv"
	"testing"

	"loop.example/g03310/impl"
)

// someActs are valid, with the bounds of each range.
func someActs() []impl.Act {
	list := []impl.Act{{Kind: impl.AcMorning}}
	for _, kind := range []int{impl.AcBake, impl.AcSell, impl.AcCheap, impl.AcFlour} {
		for _, n := range []int{0, 1, 4, 10, 999, 1000} {
			list = append(list, impl.Act{Kind: kind, A: n})
		}
	}
	for k := range 4 {
		for _, grams := range []int{0, 1, 101, 99999, 100000} {
			list = append(list, impl.Act{Kind: impl.AcBuy, A: k, B: grams})
		}
	}
	return list
}

// badActs have a kind that there is not, a number that is not in its range, or
// one that the kind does not have.
func badActs() []impl.Act {
	list := []impl.Act{{}, {Kind: 7}, {Kind: -1}, {Kind: 0, A: 5}, {Kind: 7, A: 5}, {Kind: impl.AcMorning, A: 1}, {Kind: impl.AcMorning, A: -1}, {Kind: impl.AcMorning, B: 1}, {Kind: impl.AcMorning, B: -1}, {Kind: impl.AcMorning, A: 1, B: 1}, {Kind: impl.AcBuy, A: 4}, {Kind: impl.AcBuy, A: -1}, {Kind: impl.AcBuy, A: 4, B: 5}, {Kind: math.MaxInt64}, {Kind: math.MinInt64}}
	for _, kind := range []int{impl.AcBake, impl.AcSell, impl.AcCheap, impl.AcFlour} {
		for _, n := range outside(0, 1000) {
			list = append(list, impl.Act{Kind: kind, A: n})
		}
		for _, n := range outside(0, 0) {
			list = append(list, impl.Act{Kind: kind, B: n}, impl.Act{Kind: kind, A: 5, B: n})
		}
	}
	for _, n := range outside(0, 3) {
		list = append(list, impl.Act{Kind: impl.AcBuy, A: n, B: 5})
	}
	for k := range 4 {
		for _, n := range outside(0, 100000) {
			list = append(list, impl.Act{Kind: impl.AcBuy, A: k, B: n})
		}
	}
	return list
}

// oneDay bakes, sells, and buys salt.
func oneDay() []impl.Act {
	return []impl.Act{{Kind: impl.AcFlour, A: 4}, {Kind: impl.AcBake, A: 4}, {Kind: impl.AcSell, A: 3}, {Kind: impl.AcMorning}, {Kind: impl.AcCheap, A: 2}, {Kind: impl.AcCheap, A: 1}, {Kind: impl.AcBuy, A: 2, B: 101}}
}

func TestSampleBakery(t *testing.T) {
	want := impl.Bakery{Stock: impl.Stock{Grams: []int{4000, 3000, 100, 800}}, Dough: impl.Dough{Water: 650, Salt: 20, Leaven: 200}, Loaf: impl.Loaf{Weight: 500, Loss: 15}, Money: 50}
	a, b := impl.SampleBakery(), impl.SampleBakery()
	if !sameBakery(a, want) || !impl.BakeryOk(a) {
		t.Errorf("SampleBakery() = %v, want %v", a, want)
	}
	a.Stock.Grams[0] = 99
	if !sameBakery(b, want) || !sameBakery(impl.SampleBakery(), want) {
		t.Error("sample bakeries share memory")
	}
}

func TestActOk(t *testing.T) {
	b := impl.SampleBakery()
	for _, a := range someActs() {
		if !impl.ActOk(a) {
			t.Errorf("ActOk(%v) = false", a)
		}
		if _, number := impl.DoAct(b, a); number < 0 {
			t.Errorf("DoAct(%v) = %d", a, number)
		}
	}
	for _, a := range badActs() {
		if impl.ActOk(a) {
			t.Errorf("ActOk(%v) = true", a)
		}
		if got, number := impl.DoAct(b, a); number != -1 || !sameBakery(got, b) {
			t.Errorf("DoAct(%v, %v) = %v, %d; want it unchanged, -1", b, a, got, number)
		}
	}
}

func TestDoAct(t *testing.T) {
	b, _ := impl.BakeLoaves(impl.SampleBakery(), 4)
	b, _ = impl.NightOver(b)
	b, _ = impl.BakeLoaves(b, 2)
	acts := append(someActs(), impl.Act{Kind: impl.AcSell, A: 2}, impl.Act{Kind: impl.AcSell, A: 6}, impl.Act{Kind: impl.AcSell, A: 7}, impl.Act{Kind: impl.AcCheap, A: 5}, impl.Act{Kind: impl.AcBuy, A: 1, B: 5000}, impl.Act{Kind: impl.AcBuy, A: 1, B: 5001}, impl.Act{Kind: impl.AcBake, A: 2})
	for _, a := range acts {
		got, number := impl.DoAct(b, a)
		if a.Kind == impl.AcFlour {
			if number != impl.FlourNeeded(b, a.A) || !sameBakery(got, b) {
				t.Errorf("DoAct(%v, %v) = %v, %d; want it unchanged, %d", b, a, got, number, impl.FlourNeeded(b, a.A))
			}
			continue
		}
		want, ok := do(b, a)
		if !sameBakery(got, want) || ok && number != 1 || !ok && number != 0 {
			t.Errorf("DoAct(%v, %v) = %v, %d; want %v, %v", b, a, got, number, want, ok)
		}
		if !ok && !sameBakery(got, b) {
			t.Errorf("DoAct(%v, %v) = %v, though it failed", b, a, got)
		}
	}
	// The flour for too much dough is -1, for an act that is valid.
	b.Loaf = impl.Loaf{Weight: 1001}
	if got, number := impl.DoAct(b, impl.Act{Kind: impl.AcFlour, A: 1000}); number != -1 || !sameBakery(got, b) {
		t.Errorf("DoAct(%v) of too much flour = %v, %d; want it unchanged, -1", b, got, number)
	}
}

func TestActsInBadBakeries(t *testing.T) {
	for _, b := range badBakeries(t) {
		for _, a := range []impl.Act{{Kind: impl.AcFlour}, {Kind: impl.AcMorning}, {Kind: impl.AcBake}, {Kind: impl.AcBuy}, {}} {
			if got, number := impl.DoAct(b, a); number != -1 || !sameBakery(got, b) {
				t.Errorf("DoAct(%v, %v) = %v, %d; want it unchanged, -1", b, a, got, number)
			}
		}
		for _, acts := range [][]impl.Act{nil, oneDay()} {
			if got, numbers := impl.RunActs(b, acts); len(numbers) != 0 || !sameBakery(got, b) {
				t.Errorf("RunActs(%v, %v) = %v, %v; want it unchanged, nil", b, acts, got, numbers)
			}
			for _, numbers := range [][]int{nil, repeated(len(acts), -1)} {
				if impl.IsReplay(b, acts, numbers) {
					t.Errorf("IsReplay(%v, %v, %v) = true", b, acts, numbers)
				}
			}
		}
		if got := impl.FormatBakery(b); len(got) != 0 {
			t.Errorf("FormatBakery(%v) = %q, want nothing", b, got)
		}
	}
}

func TestRunActs(t *testing.T) {
	got, numbers := impl.RunActs(impl.SampleBakery(), oneDay())
	if !slices.Equal(numbers, []int{1260, 1, 1, 1, 0, 1, 1}) || !slices.Equal(got.Stock.Grams, []int{2740, 2181, 176, 548}) || got.Money != 62 || got.Book.Rack != (impl.Rack{}) || got.Book.Baked != 4 || got.Book.Sold != 4 {
		t.Errorf("RunActs of one day = %v, %v", got, numbers)
	}
	b := impl.SampleBakery()
	for _, acts := range [][]impl.Act{nil, {}} {
		if got, numbers := impl.RunActs(b, acts); len(numbers) != 0 || !sameBakery(got, b) {
			t.Errorf("RunActs of no acts = %v, %v", got, numbers)
		}
	}
	// An act that is not valid has the number -1, and the others go on.
	mixed := []impl.Act{{Kind: impl.AcBake, A: 1}, {}, {Kind: impl.AcSell, A: 1001}, {Kind: impl.AcSell, A: 1}, {Kind: impl.AcMorning, B: 1}, {Kind: impl.AcSell, A: 1}}
	if got, numbers := impl.RunActs(b, mixed); !slices.Equal(numbers, []int{1, -1, -1, 1, -1, 0}) || got.Money != 54 {
		t.Errorf("RunActs(%v) = %v, %v", mixed, got, numbers)
	}
	if got, numbers := impl.RunActs(b, badActs()[:40]); !slices.Equal(numbers, repeated(40, -1)) || !sameBakery(got, b) {
		t.Errorf("RunActs of bad acts = %v, %v", got, numbers)
	}
}

func TestMostActs(t *testing.T) {
	b := impl.SampleBakery()
	flour := impl.Act{Kind: impl.AcFlour, A: 4}
	if got, numbers := impl.RunActs(b, repeated(40, flour)); !slices.Equal(numbers, repeated(40, 1260)) || !sameBakery(got, b) {
		t.Errorf("RunActs of 40 acts = %v, %v", got, numbers)
	}
	if !impl.IsReplay(b, repeated(40, flour), repeated(40, 1260)) {
		t.Error("IsReplay of 40 acts = false")
	}
	for _, n := range []int{41, 42, 500} {
		if got, numbers := impl.RunActs(b, repeated(n, flour)); len(numbers) != 0 || !sameBakery(got, b) {
			t.Errorf("RunActs of %d acts = %v, %v; want it unchanged, nil", n, got, numbers)
		}
		if impl.IsReplay(b, repeated(n, flour), repeated(n, 1260)) || impl.IsReplay(b, repeated(n, flour), nil) || impl.IsReplay(b, repeated(n, flour), []int{}) {
			t.Errorf("IsReplay of %d acts = true", n)
		}
	}
	// The book is full after as many acts.
	mornings := repeated(40, impl.Act{Kind: impl.AcMorning})
	full, numbers := impl.RunActs(b, mornings)
	if !slices.Equal(numbers, repeated(40, 1)) {
		t.Errorf("RunActs of 40 mornings = %v", numbers)
	}
	if _, numbers := impl.RunActs(full, mornings[:2]); !slices.Equal(numbers, []int{0, 0}) {
		t.Errorf("RunActs of 2 more mornings = %v, want [0 0]", numbers)
	}
}

// Nothing can be baked, and it is an event as well.
func TestBakingNothing(t *testing.T) {
	b := impl.SampleBakery()
	got, number := impl.DoAct(b, impl.Act{Kind: impl.AcBake})
	if number != 1 || !slices.Equal(got.Stock.Grams, b.Stock.Grams) || got.Money != 50 || got.Book.Rack != (impl.Rack{}) || got.Book.Baked != 0 || !slices.Equal(got.Book.Events, []impl.Event{{Kind: impl.EvBake}}) {
		t.Errorf("DoAct that bakes nothing = %v, %d", got, number)
	}
	empty, _ := impl.OpenBakery([]int{0, 0, 0, 0}, b.Dough, b.Loaf, 0)
	acts := []impl.Act{{Kind: impl.AcFlour}, {Kind: impl.AcBake}, {Kind: impl.AcBake, A: 1}, {Kind: impl.AcSell}, {Kind: impl.AcSell, A: 1}, {Kind: impl.AcCheap}, {Kind: impl.AcBuy}, {Kind: impl.AcBuy, B: 1}}
	after, numbers := impl.RunActs(empty, acts)
	if !slices.Equal(numbers, []int{0, 1, 0, 1, 0, 1, 1, 0}) || after.Money != 0 || len(after.Book.Events) != 3 {
		t.Errorf("RunActs in an empty bakery = %v, %v", after, numbers)
	}
	if got := impl.FormatBakery(after); !slices.Equal(got, []string{"stock 0 0 0 0", "rack 0 0 0", "book 0 0 0", "money 0"}) {
		t.Errorf("FormatBakery of an empty bakery = %q", got)
	}
}

func TestFormatBakery(t *testing.T) {
	if got := impl.FormatBakery(impl.SampleBakery()); !slices.Equal(got, []string{"stock 4000 3000 100 800", "rack 0 0 0", "book 0 0 0", "money 50"}) {
		t.Errorf("FormatBakery of the sample bakery = %q", got)
	}
	acts := []impl.Act{{Kind: impl.AcBake, A: 5}, {Kind: impl.AcMorning}, {Kind: impl.AcBake, A: 4}, {Kind: impl.AcMorning}, {Kind: impl.AcBake, A: 3}, {Kind: impl.AcSell, A: 1}, {Kind: impl.AcCheap, A: 2}, {Kind: impl.AcMorning}, {Kind: impl.AcBuy, A: 0, B: 1700}}
	b, _ := impl.RunActs(impl.SampleBakery(), acts)
	if got := impl.FormatBakery(b); !slices.Equal(got, []string{"stock 1920 543 24 44", "rack 0 2 4", "book 12 3 3", "money 41"}) {
		t.Errorf("FormatBakery(%v) = %q", b, got)
	}
	most, _ := impl.OpenBakery(repeated(4, 1000000), b.Dough, b.Loaf, 1000000)
	if got := impl.FormatBakery(most); !slices.Equal(got, []string{"stock 1000000 1000000 1000000 1000000", "rack 0 0 0", "book 0 0 0", "money 1000000"}) {
		t.Errorf("FormatBakery(%v) = %q", most, got)
	}
}

func TestIsReplay(t *testing.T) {
	b := impl.SampleBakery()
	_, numbers := impl.RunActs(b, oneDay())
	if !impl.IsReplay(b, oneDay(), numbers) || !impl.IsReplay(b, nil, nil) || !impl.IsReplay(b, []impl.Act{}, nil) || !impl.IsReplay(b, nil, []int{}) || !impl.IsReplay(b, []impl.Act{{}}, []int{-1}) {
		t.Error("IsReplay of what was run is false")
	}
	for i := range numbers {
		for _, by := range []int{-1, 1} {
			other := slices.Clone(numbers)
			other[i] += by
			if impl.IsReplay(b, oneDay(), other) {
				t.Errorf("IsReplay(%v) = true", other)
			}
		}
		if impl.IsReplay(b, oneDay(), numbers[:i]) || impl.IsReplay(b, oneDay()[:i], numbers) || impl.IsReplay(b, oneDay(), append(slices.Clone(numbers), i)) {
			t.Errorf("IsReplay of %d numbers or acts is true", i)
		}
	}
	if impl.IsReplay(b, nil, []int{0}) || impl.IsReplay(b, []impl.Act{{}}, nil) || impl.IsReplay(b, []impl.Act{{}}, []int{0}) {
		t.Error("IsReplay of other numbers is true")
	}
}

// In every history what was baked is sold, thrown away or on the shelf, nothing
// is baked without flour, and money is exact.
func TestHistories(t *testing.T) {
	r := rand.New(rand.NewPCG(39, 0))
	for range 80 {
		acts := make([]impl.Act, r.IntN(41))
		for i := range acts {
			acts[i] = randomAct(r)
			if r.IntN(8) == 0 {
				acts[i] = impl.Act{Kind: impl.AcFlour, A: r.IntN(20)}
			}
		}
		start := impl.SampleBakery()
		byHand := bakeryByHand{slices.Clone(start.Stock.Grams), &shelfByHand{}, 50}
		var want []int
		for _, a := range acts {
			if a.Kind == impl.AcFlour {
				want = append(want, (a.A*589*1000+1869)/1870)
				continue
			}
			next, possible := byHand.tryAct(a)
			if possible {
				byHand = next
				want = append(want, 1)
			} else {
				want = append(want, 0)
			}
		}
		got, numbers := impl.RunActs(start, acts)
		if !slices.Equal(numbers, want) || !byHand.agrees(got) || !sameBakery(start, impl.SampleBakery()) {
			t.Fatalf("RunActs(%v) = %v, %v; want %v and %v", acts, got, numbers, byHand, want)
		}
		if book := got.Book; book.Baked != book.Sold+book.Thrown+book.Rack.Fresh+book.Rack.Day+book.Rack.Old {
			t.Errorf("RunActs(%v) = %v loses a loaf", acts, got)
		}
		if !impl.IsReplay(start, acts, numbers) {
			t.Errorf("IsReplay(%v, %v) = false", acts, numbers)
		}
		if lines := impl.FormatBakery(got); len(lines) != 4 || lines[3] != "money "+strconv.Itoa(byHand.money) {
			t.Errorf("FormatBakery(%v) = %q", got, lines)
		}
	}
}

func TestActsAreNotChanged(t *testing.T) {
	mark := impl.Act{Kind: 77}
	b := impl.SampleBakery()
	given, numbers := withSpare(oneDay(), mark), withSpare([]int{1260, 1, 1, 1, 0, 1, 1}, -7)
	grams := slices.Clone(b.Stock.Grams)
	b.Stock.Grams = withSpare(grams, -7)
	got, list := impl.RunActs(b, given)
	got.Stock.Grams[0], list[0] = 99, 99
	impl.IsReplay(b, given, numbers)
	for _, a := range []impl.Act{{Kind: impl.AcFlour, A: 4}, {Kind: impl.AcBake, A: 4}, {}} {
		next, _ := impl.DoAct(b, a)
		next.Stock.Grams[0] = 99
	}
	for _, acts := range [][]impl.Act{nil, repeated(41, impl.Act{})} {
		next, _ := impl.RunActs(b, acts)
		next.Stock.Grams[0] = 99
	}
	checkUntouched(t, given, oneDay(), mark)
	checkUntouched(t, numbers, []int{1260, 1, 1, 1, 0, 1, 1}, -7)
	checkUntouched(t, b.Stock.Grams, grams, -7)
}
