package tests

import (
	"math/rand/v2"
	"slices"
	"testing"

	"loop.example/g03310/impl"
)

const noTill = -1000000000

func twoSlips() []impl.Slip {
	return []impl.Slip{{Sold: 7, Paid: 10, Given: 3}, {Sold: 5, Paid: 5, Given: 20}}
}

// slipLists can be counted: they have up to as many slips as there may be, right
// and wrong ones.
func slipLists() [][]impl.Slip {
	lists := [][]impl.Slip{
		nil, twoSlips(), twoSlips()[:1], {{}}, {{Sold: 100000, Paid: 100000}}, {{Given: 100000}}, {{Paid: 100000, Given: 100000}}, {{Sold: 100000}}, repeated(60, impl.Slip{Sold: 1, Paid: 2, Given: 1}), repeated(60, impl.Slip{Given: 100000}), repeated(60, impl.Slip{Paid: 100000}), {{Given: 100}, {Paid: 50}, {Given: 60}, {Paid: 500}}, {{Paid: 100}, {Given: 30}, {Given: 30}, {Given: 30}}, {{Paid: 100}, {Given: 101}}, {{Given: 99999}, {Given: 1}}, {{Given: 99999}, {Given: 2}},
	}
	r := rand.New(rand.NewPCG(35, 0))
	for n := range 100 {
		list := make([]impl.Slip, n%61)
		for i := range list {
			most := 10 << (n % 14)
			paid, given := r.IntN(most), r.IntN(most)
			list[i] = impl.Slip{Sold: paid - given, Paid: paid, Given: given}
			if paid < given || n%4 == 0 {
				list[i].Sold = r.IntN(most)
			}
		}
		lists = append(lists, list)
	}
	return lists
}

// badSlips have a number that is not in its range.
func badSlips() []impl.Slip {
	var list []impl.Slip
	for _, n := range outside(0, 100000) {
		list = append(list, impl.Slip{Sold: n, Paid: 10, Given: 3}, impl.Slip{Sold: 7, Paid: n, Given: 3}, impl.Slip{Sold: 7, Paid: 10, Given: n}, impl.Slip{Sold: n, Paid: n}, impl.Slip{Paid: n, Given: n}, impl.Slip{Sold: n, Given: -n}, impl.Slip{Sold: n - 5, Paid: n, Given: 5})
	}
	return list
}

// badSlipLists cannot be counted.
func badSlipLists() [][]impl.Slip {
	good := impl.Slip{Sold: 7, Paid: 10, Given: 3}
	lists := [][]impl.Slip{repeated(61, good), repeated(61, impl.Slip{}), repeated(400, good)}
	for _, s := range badSlips() {
		lists = append(lists, []impl.Slip{s}, []impl.Slip{s, good}, []impl.Slip{good, good, s})
	}
	return lists
}

func TestSlipOk(t *testing.T) {
	good := []impl.Slip{{}, {Sold: 7, Paid: 10, Given: 3}, {Sold: 100000, Paid: 100000}, {Paid: 100000, Given: 100000}, {Sold: 1, Paid: 100000, Given: 99999}, {Sold: 99999, Paid: 100000, Given: 1}, {Sold: 5, Paid: 5}}
	for _, s := range good {
		if !impl.SlipOk(s) {
			t.Errorf("SlipOk(%v) = false", s)
		}
	}
	bad := append(badSlips(), impl.Slip{Sold: 5, Paid: 5, Given: 20}, impl.Slip{Sold: 1}, impl.Slip{Paid: 1}, impl.Slip{Given: 1}, impl.Slip{Sold: 7, Paid: 10, Given: 2}, impl.Slip{Sold: 7, Paid: 10, Given: 4}, impl.Slip{Sold: 13, Paid: 10, Given: 3}, impl.Slip{Sold: 7, Paid: 3, Given: 10}, impl.Slip{Sold: -5, Paid: 5, Given: 10}, impl.Slip{Sold: 100001, Paid: 100001})
	for _, s := range bad {
		if impl.SlipOk(s) {
			t.Errorf("SlipOk(%v) = true", s)
		}
	}
}

func TestWrongSlips(t *testing.T) {
	right, wrong := impl.Slip{Sold: 7, Paid: 10, Given: 3}, impl.Slip{Sold: 7, Paid: 10, Given: 4}
	cases := []struct {
		list []impl.Slip
		want []int
	}{
		{nil, nil}, {twoSlips(), []int{1}}, {[]impl.Slip{right}, nil}, {[]impl.Slip{wrong}, []int{0}}, {[]impl.Slip{wrong, right, wrong, wrong, right}, []int{0, 2, 3}}, {repeated(60, right), nil}, {repeated(60, wrong), inOrder(60)}, {append(repeated(59, right), wrong), []int{59}},
	}
	for _, c := range cases {
		if got := impl.WrongSlips(c.list); !slices.Equal(got, c.want) {
			t.Errorf("WrongSlips(%v) = %v, want %v", c.list, got, c.want)
		}
	}
	// Slips whose numbers are not in their range are wrong as well.
	for _, s := range badSlips() {
		if got := impl.WrongSlips([]impl.Slip{right, s, right, s}); !slices.Equal(got, []int{1, 3}) {
			t.Errorf("WrongSlips with %v = %v, want [1 3]", s, got)
		}
	}
	for _, n := range []int{61, 62, 500} {
		if got := impl.WrongSlips(repeated(n, wrong)); len(got) != 0 {
			t.Errorf("WrongSlips of %d slips = %v, want nothing", n, got)
		}
	}
}

// coins puts each coin into the till, takes it out again and notes the amount
// after each slip.
func coins(list []impl.Slip, start int) []int {
	amounts := []int{start}
	till := start
	for _, s := range list {
		till += s.Paid
		till -= s.Given
		amounts = append(amounts, till)
	}
	return amounts
}

func TestTill(t *testing.T) {
	for _, c := range []struct {
		list                 []impl.Slip
		start, after, lowest int
	}{
		{twoSlips(), 10, 2, 2}, {twoSlips(), 0, -8, -8}, {twoSlips(), 100000, 99992, 99992}, {nil, 10, 10, 10}, {nil, 0, 0, 0}, {nil, 100000, 100000, 100000}, {twoSlips()[:1], 10, 17, 10}, {[]impl.Slip{{Given: 100}, {Paid: 50}, {Given: 60}, {Paid: 500}}, 5, 395, -105}, {[]impl.Slip{{Paid: 100}, {Given: 30}, {Given: 30}}, 5, 45, 5}, {repeated(60, impl.Slip{Given: 100000}), 0, -6000000, -6000000}, {repeated(60, impl.Slip{Paid: 100000}), 100000, 6100000, 100000}, {[]impl.Slip{{Paid: 3, Given: 10}, {Paid: 10, Given: 3}}, 20, 20, 13}, {[]impl.Slip{{Paid: 10, Given: 10}}, 0, 0, 0},
	} {
		if got := impl.TillAfter(c.list, c.start); got != c.after {
			t.Errorf("TillAfter(%v, %d) = %d, want %d", c.list, c.start, got, c.after)
		}
		if got := impl.LowestTill(c.list, c.start); got != c.lowest {
			t.Errorf("LowestTill(%v, %d) = %d, want %d", c.list, c.start, got, c.lowest)
		}
	}
	for _, list := range slipLists() {
		for _, start := range []int{0, 1, 777, 100000} {
			amounts := coins(list, start)
			if got, want := impl.TillAfter(list, start), amounts[len(amounts)-1]; got != want {
				t.Errorf("TillAfter(%v, %d) = %d, want %d", list, start, got, want)
			}
			if got, want := impl.LowestTill(list, start), slices.Min(amounts); got != want {
				t.Errorf("LowestTill(%v, %d) = %d, want %d", list, start, got, want)
			}
		}
	}
}

// Right slips add up to what was sold.
func TestRightSlipsAddUp(t *testing.T) {
	for _, list := range slipLists() {
		if len(impl.WrongSlips(list)) > 0 {
			continue
		}
		sold := 0
		for _, s := range list {
			sold += s.Sold
		}
		for _, start := range []int{0, 50, 100000} {
			if got := impl.TillAfter(list, start) - start; got != sold {
				t.Errorf("TillAfter(%v, %d) is %d more, but %d was sold", list, start, got, sold)
			}
			if got := impl.MissingMoney(list, start, start+sold); got != 0 {
				t.Errorf("MissingMoney(%v, %d) = %d, want 0", list, start, got)
			}
		}
	}
}

// With the least start the till is never empty below nothing.
func TestLeastStart(t *testing.T) {
	cases := []struct {
		list []impl.Slip
		want int
	}{
		{twoSlips(), 8}, {nil, 0}, {twoSlips()[:1], 0}, {twoSlips()[1:], 15}, {[]impl.Slip{{Given: 100000}}, 100000}, {[]impl.Slip{{Given: 100000}, {Given: 1}}, -1}, {[]impl.Slip{{Given: 99999}, {Given: 1}}, 100000}, {[]impl.Slip{{Given: 99999}, {Given: 2}}, -1}, {[]impl.Slip{{Given: 100000}, {Paid: 5}, {Given: 5}}, 100000}, {[]impl.Slip{{Paid: 5}, {Given: 100000}}, 99995}, {repeated(60, impl.Slip{Given: 100000}), -1}, {repeated(60, impl.Slip{Paid: 100000}), 0}, {[]impl.Slip{{Given: 100}, {Paid: 50}, {Given: 60}, {Paid: 500}}, 110}, {[]impl.Slip{{Paid: 10, Given: 10}}, 0},
	}
	for _, c := range cases {
		if got := impl.LeastStart(c.list); got != c.want {
			t.Errorf("LeastStart(%v) = %d, want %d", c.list, got, c.want)
		}
	}
	for _, list := range slipLists() {
		got := impl.LeastStart(list)
		if got < 0 {
			if got != -1 || impl.LowestTill(list, 100000) >= 0 {
				t.Errorf("LeastStart(%v) = %d", list, got)
			}
			continue
		}
		if got > 100000 || slices.Min(coins(list, got)) < 0 || impl.LowestTill(list, got) < 0 {
			t.Errorf("LeastStart(%v) = %d is too little", list, got)
		}
		if got > 0 && impl.LowestTill(list, got-1) >= 0 {
			t.Errorf("LeastStart(%v) = %d, and one less is enough", list, got)
		}
	}
}

func TestNoSlips(t *testing.T) {
	for _, list := range [][]impl.Slip{nil, {}} {
		for _, start := range []int{0, 10, 100000} {
			if a, b, c := impl.TillAfter(list, start), impl.LowestTill(list, start), impl.MissingMoney(list, start, 4); a != start || b != start || c != start-4 {
				t.Errorf("TillAfter, LowestTill and MissingMoney of no slips = %d, %d and %d", a, b, c)
			}
		}
		if a, b := impl.WrongSlips(list), impl.LeastStart(list); len(a) != 0 || b != 0 {
			t.Errorf("WrongSlips and LeastStart of no slips = %v and %d", a, b)
		}
	}
}

func TestMissingMoney(t *testing.T) {
	cases := []struct {
		list                 []impl.Slip
		start, counted, want int
	}{
		{twoSlips(), 10, 1, 1}, {twoSlips(), 10, 2, 0}, {twoSlips(), 10, 5, -3}, {twoSlips(), 0, 0, -8}, {twoSlips(), 10, 10000000, -9999998}, {nil, 100000, 0, 100000}, {repeated(60, impl.Slip{Paid: 100000}), 100000, 0, 6100000}, {repeated(60, impl.Slip{Given: 100000}), 0, 10000000, -16000000},
	}
	for _, c := range cases {
		if got := impl.MissingMoney(c.list, c.start, c.counted); got != c.want {
			t.Errorf("MissingMoney(%v, %d, %d) = %d, want %d", c.list, c.start, c.counted, got, c.want)
		}
	}
	for _, counted := range outside(0, 10000000) {
		if a, b := impl.MissingMoney(twoSlips(), 10, counted), impl.MissingMoney(nil, 0, counted); a != 0 || b != 0 {
			t.Errorf("MissingMoney counted %d = %d and %d, want 0", counted, a, b)
		}
	}
}

func TestTillRejects(t *testing.T) {
	check := func(list []impl.Slip, start int) {
		t.Helper()
		if a, b := impl.TillAfter(list, start), impl.LowestTill(list, start); a != noTill || b != noTill {
			t.Errorf("TillAfter and LowestTill of %v and %d = %d and %d, want %d", list, start, a, b, noTill)
		}
		if got := impl.MissingMoney(list, start, 1); got != 0 {
			t.Errorf("MissingMoney(%v, %d, 1) = %d, want 0", list, start, got)
		}
	}
	for _, list := range badSlipLists() {
		for _, start := range []int{0, 10, 100000} {
			check(list, start)
		}
		if got := impl.LeastStart(list); got != -1 {
			t.Errorf("LeastStart(%v) = %d, want -1", list, got)
		}
	}
	for _, start := range outside(0, 100000) {
		check(nil, start)
		check(twoSlips(), start)
	}
}

func TestSlipsAreNotChanged(t *testing.T) {
	mark := impl.Slip{Sold: 77}
	given := withSpare(twoSlips(), mark)
	impl.WrongSlips(given)
	impl.TillAfter(given, 10)
	impl.LowestTill(given, 10)
	impl.LeastStart(given)
	impl.MissingMoney(given, 10, 1)
	checkUntouched(t, given, twoSlips(), mark)
}
