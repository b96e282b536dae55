package tests

import (
	"testing"

	"loop.example/g03310/impl"
)

// racks are valid, with empty shelves and full ones.
func racks() []impl.Rack {
	list := []impl.Rack{{}, {Fresh: 10, Day: 4, Old: 3}, {Fresh: 10000, Day: 10000, Old: 10000}}
	for _, fresh := range []int{0, 1, 5, 10000} {
		for _, day := range []int{0, 1, 7, 10000} {
			for _, old := range []int{0, 1, 9, 10000} {
				list = append(list, impl.Rack{Fresh: fresh, Day: day, Old: old})
			}
		}
	}
	return list
}

// badRacks have a number that is not in its range.
func badRacks() []impl.Rack {
	var list []impl.Rack
	for _, n := range outside(0, 10000) {
		list = append(list, impl.Rack{Fresh: n, Day: 4, Old: 3}, impl.Rack{Fresh: 10, Day: n, Old: 3}, impl.Rack{Fresh: 10, Day: 4, Old: n}, impl.Rack{Fresh: n, Day: n, Old: n})
	}
	return list
}

func TestRackOk(t *testing.T) {
	for _, r := range racks() {
		if !impl.RackOk(r) {
			t.Errorf("RackOk(%v) = false", r)
		}
	}
	for _, r := range badRacks() {
		if impl.RackOk(r) {
			t.Errorf("RackOk(%v) = true", r)
		}
	}
}

func TestRacksReject(t *testing.T) {
	check := func(r impl.Rack, n int) {
		t.Helper()
		if got, sold := impl.SellFresh(r, n); got != r || sold != -1 {
			t.Errorf("SellFresh(%v, %d) = %v, %d", r, n, got, sold)
		}
		if got, sold := impl.SellCheap(r, n); got != r || sold != -1 {
			t.Errorf("SellCheap(%v, %d) = %v, %d", r, n, got, sold)
		}
		if got, thrown := impl.NextMorning(r, n); got != r || thrown != -1 {
			t.Errorf("NextMorning(%v, %d) = %v, %d", r, n, got, thrown)
		}
	}
	for _, r := range badRacks() {
		check(r, 0)
		check(r, 5)
		if got := impl.ValueOf(r, 10); got != -1 {
			t.Errorf("ValueOf(%v, 10) = %d, want -1", r, got)
		}
	}
	for _, r := range racks() {
		for _, n := range outside(0, 10000) {
			check(r, n)
		}
		for _, n := range outside(0, 1000) {
			if got := impl.ValueOf(r, n); got != -1 {
				t.Errorf("ValueOf(%v, %d) = %d, want -1", r, n, got)
			}
		}
	}
}

// sellByOne takes loaf after loaf, from the first shelf that is not empty.
func sellByOne(n int, first *int, second *int) int {
	sold := 0
	for range n {
		switch {
		case *first > 0:
			*first--
		case *second > 0:
			*second--
		default:
			return sold
		}
		sold++
	}
	return sold
}

func TestSellByOne(t *testing.T) {
	for _, r := range racks() {
		for _, n := range []int{0, 1, 2, 5, 6, 8, 10, 12, 14, 15, 9999, 10000} {
			want := r
			sold := sellByOne(n, &want.Fresh, &want.Day)
			if got, s := impl.SellFresh(r, n); got != want || s != sold {
				t.Errorf("SellFresh(%v, %d) = %v, %d; want %v, %d", r, n, got, s, want, sold)
			}
			want = r
			sold = sellByOne(n, &want.Old, &want.Day)
			if got, s := impl.SellCheap(r, n); got != want || s != sold {
				t.Errorf("SellCheap(%v, %d) = %v, %d; want %v, %d", r, n, got, s, want, sold)
			}
		}
	}
}

func TestSelling(t *testing.T) {
	r := impl.Rack{Fresh: 10, Day: 4, Old: 3}
	fresh := []struct {
		n    int
		want impl.Rack
		sold int
	}{
		{0, r, 0}, {1, impl.Rack{Fresh: 9, Day: 4, Old: 3}, 1}, {10, impl.Rack{Day: 4, Old: 3}, 10}, {12, impl.Rack{Day: 2, Old: 3}, 12}, {14, impl.Rack{Old: 3}, 14}, {15, impl.Rack{Old: 3}, 14}, {10000, impl.Rack{Old: 3}, 14},
	}
	for _, c := range fresh {
		if got, sold := impl.SellFresh(r, c.n); got != c.want || sold != c.sold {
			t.Errorf("SellFresh(%v, %d) = %v, %d; want %v, %d", r, c.n, got, sold, c.want, c.sold)
		}
	}
	cheap := []struct {
		n    int
		want impl.Rack
		sold int
	}{
		{0, r, 0}, {3, impl.Rack{Fresh: 10, Day: 4}, 3}, {4, impl.Rack{Fresh: 10, Day: 3}, 4}, {7, impl.Rack{Fresh: 10}, 7}, {9, impl.Rack{Fresh: 10}, 7}, {10000, impl.Rack{Fresh: 10}, 7},
	}
	for _, c := range cheap {
		if got, sold := impl.SellCheap(r, c.n); got != c.want || sold != c.sold {
			t.Errorf("SellCheap(%v, %d) = %v, %d; want %v, %d", r, c.n, got, sold, c.want, c.sold)
		}
	}
}

// Nothing is sold from empty shelves, and nothing is thrown away.
func TestEmptyShelves(t *testing.T) {
	for _, n := range []int{0, 1, 10000} {
		if r, sold := impl.SellFresh(impl.Rack{}, n); r != (impl.Rack{}) || sold != 0 {
			t.Errorf("SellFresh of %d from empty shelves = %v, %d", n, r, sold)
		}
		if r, sold := impl.SellCheap(impl.Rack{}, n); r != (impl.Rack{}) || sold != 0 {
			t.Errorf("SellCheap of %d from empty shelves = %v, %d", n, r, sold)
		}
		if r, thrown := impl.NextMorning(impl.Rack{}, n); r != (impl.Rack{Fresh: n}) || thrown != 0 {
			t.Errorf("NextMorning of empty shelves with %d = %v, %d", n, r, thrown)
		}
	}
	if got := impl.ValueOf(impl.Rack{}, 1000); got != 0 {
		t.Errorf("ValueOf empty shelves = %d, want 0", got)
	}
	if r, sold := impl.SellFresh(impl.Rack{Old: 5}, 3); r != (impl.Rack{Old: 5}) || sold != 0 {
		t.Errorf("SellFresh of old loaves = %v, %d", r, sold)
	}
	if r, sold := impl.SellCheap(impl.Rack{Fresh: 5}, 3); r != (impl.Rack{Fresh: 5}) || sold != 0 {
		t.Errorf("SellCheap of fresh loaves = %v, %d", r, sold)
	}
}

// No loaf appears or vanishes between the days.
func TestNextMorning(t *testing.T) {
	for _, r := range racks() {
		for _, baked := range []int{0, 1, 20, 10000} {
			got, thrown := impl.NextMorning(r, baked)
			if want := (impl.Rack{Fresh: baked, Day: r.Fresh, Old: r.Day}); got != want || thrown != r.Old {
				t.Errorf("NextMorning(%v, %d) = %v, %d; want %v, %d", r, baked, got, thrown, want, r.Old)
			}
			if !impl.RackOk(got) || r.Fresh+r.Day+r.Old+baked != got.Fresh+got.Day+got.Old+thrown {
				t.Errorf("NextMorning(%v, %d) = %v, %d", r, baked, got, thrown)
			}
		}
	}
}

func TestValueOf(t *testing.T) {
	cases := []struct {
		rack  impl.Rack
		price int
		want  int
	}{
		{impl.Rack{Fresh: 10, Day: 4, Old: 3}, 10, 126}, {impl.Rack{Fresh: 10, Day: 4, Old: 3}, 0, 0}, {impl.Rack{Fresh: 10, Day: 4, Old: 3}, 1, 10}, {impl.Rack{Fresh: 10, Day: 4, Old: 3}, 2, 24},
		{impl.Rack{Fresh: 10, Day: 4, Old: 3}, 3, 34}, {impl.Rack{Fresh: 10, Day: 4, Old: 3}, 4, 51}, {impl.Rack{Fresh: 10, Day: 4, Old: 3}, 7, 85}, {impl.Rack{Old: 4}, 3, 0}, {impl.Rack{Old: 4}, 7, 4}, {impl.Rack{Old: 4}, 8, 8},
		{impl.Rack{Day: 2}, 3, 2}, {impl.Rack{Day: 2}, 5, 4}, {impl.Rack{Fresh: 10000, Day: 10000, Old: 10000}, 1000, 17500000}, {impl.Rack{Fresh: 10000, Day: 10000, Old: 10000}, 999, 9990000 + 4990000 + 2490000},
	}
	for _, c := range cases {
		if got := impl.ValueOf(c.rack, c.price); got != c.want {
			t.Errorf("ValueOf(%v, %d) = %d, want %d", c.rack, c.price, got, c.want)
		}
	}
}
