package tests

import (
	"math/rand/v2"
	"testing"

	"loop.example/g03310/impl"
)

// plainDough has 650 parts of water, 20 of salt and 200 of leaven.
func plainDough() impl.Dough {
	return impl.Dough{Water: 650, Salt: 20, Leaven: 200}
}

// weighedDoughs are valid, with and without salt and leaven, and with amounts
// that are equal.
func weighedDoughs() []impl.Dough {
	list := []impl.Dough{
		plainDough(), {Water: 650, Salt: 20}, {Water: 650, Leaven: 200}, {Water: 650}, {Water: 300, Salt: 20, Leaven: 300}, {Water: 300, Salt: 20, Leaven: 20}, {Water: 300}, {Water: 1200, Salt: 50, Leaven: 500}, {Water: 300, Salt: 1, Leaven: 1}, {Water: 500, Salt: 50, Leaven: 500}, {Water: 300, Salt: 50, Leaven: 50},
	}
	r := rand.New(rand.NewPCG(30, 0))
	for range 40 {
		list = append(list, impl.Dough{Water: 300 + r.IntN(901), Salt: r.IntN(51), Leaven: r.IntN(501)})
	}
	return list
}

// weighedFlours are in their range, with some of which amounts are 0 or equal.
var weighedFlours = []int{0, 1, 2, 3, 10, 24, 25, 26, 500, 999, 1000, 1001, 12345, 999999, 1000000}

func TestMissingPart(t *testing.T) {
	d := plainDough()
	cases := []struct {
		dough               impl.Dough
		flour, weight, want int
	}{
		{d, 500, 935, 0}, {d, 500, 925, 2}, {d, 500, 610, 1}, {d, 500, 835, 3}, {d, 500, 900, 4}, {d, 500, 936, 4}, {d, 500, 945, 4}, {d, 500, 1260, 4}, {d, 500, 435, 4}, {d, 500, 0, 4}, {d, 500, 5000000, 4}, {d, 0, 0, 0}, {d, 0, 1, 4}, {d, 1, 2, 0}, {d, 1, 1, 1}, {d, 1, 0, 4}, {d, 1000000, 1870000, 0}, {d, 1000000, 1850000, 2}, {d, 1000000, 1220000, 1}, {d, 1000000, 1670000, 3},
		// Of equal amounts, the first.
		{impl.Dough{Water: 300, Salt: 20, Leaven: 300}, 1000, 1320, 1}, {impl.Dough{Water: 300, Salt: 20, Leaven: 20}, 1000, 1320, 2}, {impl.Dough{Water: 300, Salt: 1, Leaven: 1}, 500, 651, 2},
	}
	for _, c := range cases {
		if got := impl.MissingPart(c.dough, c.flour, c.weight); got != c.want {
			t.Errorf("MissingPart(%v, %d, %d) = %d, want %d", c.dough, c.flour, c.weight, got, c.want)
		}
	}
}

func TestTwiceIn(t *testing.T) {
	d := plainDough()
	cases := []struct {
		dough               impl.Dough
		flour, weight, want int
	}{
		{d, 500, 935, 0}, {d, 500, 945, 2}, {d, 500, 1260, 1}, {d, 500, 1035, 3}, {d, 500, 1000, 4}, {d, 500, 934, 4}, {d, 500, 925, 4}, {d, 500, 610, 4}, {d, 500, 1435, 4}, {d, 500, 0, 4}, {d, 500, 5000000, 4}, {d, 0, 0, 0}, {d, 0, 1, 4}, {d, 1, 2, 0}, {d, 1, 3, 1}, {d, 1, 4, 4}, {d, 1000000, 1870000, 0}, {d, 1000000, 1890000, 2}, {d, 1000000, 2520000, 1}, {d, 1000000, 2070000, 3},
		{impl.Dough{Water: 300, Salt: 20, Leaven: 300}, 1000, 1920, 1}, {impl.Dough{Water: 300, Salt: 20, Leaven: 20}, 1000, 1360, 2}, {impl.Dough{Water: 300, Salt: 1, Leaven: 1}, 500, 653, 2}, {impl.Dough{Water: 1200, Salt: 50, Leaven: 500}, 1000000, 3950000, 1},
	}
	for _, c := range cases {
		if got := impl.TwiceIn(c.dough, c.flour, c.weight); got != c.want {
			t.Errorf("TwiceIn(%v, %d, %d) = %d, want %d", c.dough, c.flour, c.weight, got, c.want)
		}
	}
}

// partByHand returns the answer for a weight that is off by so much.
func partByHand(amounts []int, off int) int {
	switch {
	case off == 0:
		return 0
	case off == amounts[1] && amounts[1] != 0:
		return 1
	case off == amounts[2] && amounts[2] != 0:
		return 2
	case off == amounts[3] && amounts[3] != 0:
		return 3
	}
	return 4
}

// What was forgotten, or what is in it twice, is found by its weight.
func TestForgottenByHand(t *testing.T) {
	for _, d := range weighedDoughs() {
		for _, flour := range weighedFlours {
			amounts := impl.Amounts(d, flour)
			whole := impl.DoughWeight(d, flour)
			offs := []int{0, 1, -1, 2, flour, -flour, amounts[1] + amounts[2], amounts[2] + amounts[3]}
			for _, grams := range amounts[1:] {
				offs = append(offs, grams, -grams, grams+1, grams-1)
			}
			for _, off := range offs {
				for _, weight := range []int{whole - off, whole + off} {
					if weight < 0 {
						continue
					}
					if got, want := impl.MissingPart(d, flour, weight), partByHand(amounts, whole-weight); got != want {
						t.Errorf("MissingPart(%v, %d, %d) = %d, want %d", d, flour, weight, got, want)
					}
					if got, want := impl.TwiceIn(d, flour, weight), partByHand(amounts, weight-whole); got != want {
						t.Errorf("TwiceIn(%v, %d, %d) = %d, want %d", d, flour, weight, got, want)
					}
				}
			}
			if !impl.CanTell(d, flour) {
				continue
			}
			for part := 1; part <= 3; part++ {
				if a, b := impl.MissingPart(d, flour, whole-amounts[part]), impl.TwiceIn(d, flour, whole+amounts[part]); a != part || b != part {
					t.Errorf("MissingPart and TwiceIn of %v, %d for part %d = %d and %d", d, flour, part, a, b)
				}
			}
		}
	}
}

// A dough without leaven never lacks leaven, and its weight is the right one.
func TestDoughsWithoutLeaven(t *testing.T) {
	d := impl.Dough{Water: 650, Salt: 20}
	for _, c := range [][2]int{{835, 0}, {825, 2}, {510, 1}, {834, 4}} {
		if got := impl.MissingPart(d, 500, c[0]); got != c[1] {
			t.Errorf("MissingPart(%v, 500, %d) = %d, want %d", d, c[0], got, c[1])
		}
	}
	for _, c := range [][2]int{{835, 0}, {845, 2}, {1160, 1}, {836, 4}} {
		if got := impl.TwiceIn(d, 500, c[0]); got != c[1] {
			t.Errorf("TwiceIn(%v, 500, %d) = %d, want %d", d, c[0], got, c[1])
		}
	}
	bare := impl.Dough{Water: 650}
	for _, c := range [][2]int{{825, 0}, {500, 1}, {824, 4}} {
		if got := impl.MissingPart(bare, 500, c[0]); got != c[1] {
			t.Errorf("MissingPart(%v, 500, %d) = %d, want %d", bare, c[0], got, c[1])
		}
	}
	for _, none := range []impl.Dough{d, bare, {Water: 650, Leaven: 200}} {
		for _, flour := range weighedFlours {
			if impl.CanTell(none, flour) {
				t.Errorf("CanTell(%v, %d) = true", none, flour)
			}
		}
		if flour, ok := impl.FlourOf(none, impl.DoughWeight(none, 500)); flour != 500 || !ok {
			t.Errorf("FlourOf(%v) = %d, %v; want 500, true", none, flour, ok)
		}
	}
}

func TestWeighRejects(t *testing.T) {
	check := func(d impl.Dough, flour int, weight int) {
		t.Helper()
		if a, b := impl.MissingPart(d, flour, weight), impl.TwiceIn(d, flour, weight); a != -1 || b != -1 {
			t.Errorf("MissingPart and TwiceIn of %v, %d and %d = %d and %d, want -1", d, flour, weight, a, b)
		}
	}
	for _, d := range badDoughs() {
		for _, weight := range []int{0, 900, 5000000} {
			check(d, 500, weight)
			check(d, 0, weight)
		}
		if flour, ok := impl.FlourOf(d, 935); flour != 0 || ok {
			t.Errorf("FlourOf(%v, 935) = %d, %v; want 0, false", d, flour, ok)
		}
		if flour, ok := impl.FlourOf(d, 0); flour != 0 || ok {
			t.Errorf("FlourOf(%v, 0) = %d, %v; want 0, false", d, flour, ok)
		}
		if impl.CanTell(d, 500) {
			t.Errorf("CanTell(%v, 500) = true", d)
		}
	}
	for _, d := range weighedDoughs() {
		for _, n := range outside(0, 1000000) {
			check(d, n, 0)
			check(d, n, 935)
			if impl.CanTell(d, n) {
				t.Errorf("CanTell(%v, %d) = true", d, n)
			}
			if flour, ok := impl.FlourOf(d, n); flour != 0 || ok {
				t.Errorf("FlourOf(%v, %d) = %d, %v; want 0, false", d, n, flour, ok)
			}
		}
		for _, n := range outside(0, 5000000) {
			check(d, 0, n)
			check(d, 500, n)
			check(d, 1000000, n)
		}
	}
}

func TestFlourOf(t *testing.T) {
	cases := []struct {
		dough         impl.Dough
		weight, flour int
		ok            bool
	}{
		{plainDough(), 935, 500, true}, {plainDough(), 934, 0, false}, {plainDough(), 936, 0, false}, {plainDough(), 0, 0, true}, {plainDough(), 1, 0, false}, {plainDough(), 2, 1, true}, {plainDough(), 3, 2, true}, {impl.Dough{Water: 300}, 1, 1, true}, {impl.Dough{Water: 300}, 1000000, 769231, true}, {impl.Dough{Water: 1200, Salt: 50, Leaven: 500}, 999999, 363636, true}, {impl.Dough{Water: 1200, Salt: 50, Leaven: 500}, 1000000, 0, false}, {impl.Dough{Water: 1000}, 1000000, 500000, true}, {impl.Dough{Water: 1000}, 999999, 0, false},
	}
	for _, c := range cases {
		if flour, ok := impl.FlourOf(c.dough, c.weight); flour != c.flour || ok != c.ok {
			t.Errorf("FlourOf(%v, %d) = %d, %v; want %d, %v", c.dough, c.weight, flour, ok, c.flour, c.ok)
		}
	}
	// With each flour, all weights up to it have either one flour or none.
	for _, d := range weighedDoughs() {
		weight := 0
		for flour := 0; flour <= 400; flour++ {
			for ; weight < impl.DoughWeight(d, flour); weight++ {
				if got, ok := impl.FlourOf(d, weight); got != 0 || ok {
					t.Errorf("FlourOf(%v, %d) = %d, %v; want 0, false", d, weight, got, ok)
				}
			}
			if got, ok := impl.FlourOf(d, weight); got != flour || !ok {
				t.Errorf("FlourOf(%v, %d) = %d, %v; want %d, true", d, weight, got, ok, flour)
			}
			weight++
		}
	}
}

func TestCanTell(t *testing.T) {
	cases := []struct {
		dough impl.Dough
		flour int
		want  bool
	}{
		{plainDough(), 500, true}, {plainDough(), 0, false}, {plainDough(), 24, false}, {plainDough(), 25, true}, {plainDough(), 1000000, true}, {impl.Dough{Water: 300, Salt: 20, Leaven: 300}, 1000, false}, {impl.Dough{Water: 300, Salt: 20, Leaven: 20}, 1000, false}, {impl.Dough{Water: 300, Salt: 20, Leaven: 21}, 1000, true}, {impl.Dough{Water: 300, Salt: 20, Leaven: 21}, 20, false}, {impl.Dough{Water: 300, Salt: 20, Leaven: 299}, 1000, true}, {impl.Dough{Water: 300, Salt: 20, Leaven: 299}, 100, false}, {impl.Dough{Water: 300, Salt: 50, Leaven: 1}, 499, false}, {impl.Dough{Water: 300, Salt: 50, Leaven: 1}, 500, true}, {impl.Dough{Water: 300, Salt: 1, Leaven: 50}, 499, false}, {impl.Dough{Water: 300, Salt: 1, Leaven: 50}, 500, true}, {impl.Dough{Water: 300, Salt: 50, Leaven: 100}, 1, false},
	}
	for _, c := range cases {
		if got := impl.CanTell(c.dough, c.flour); got != c.want {
			t.Errorf("CanTell(%v, %d) = %v", c.dough, c.flour, got)
		}
	}
	for _, d := range weighedDoughs() {
		for _, flour := range weighedFlours {
			a := impl.Amounts(d, flour)
			want := a[1] > 0 && a[2] > 0 && a[3] > 0 && a[1] != a[2] && a[1] != a[3] && a[2] != a[3]
			if got := impl.CanTell(d, flour); got != want {
				t.Errorf("CanTell(%v, %d) = %v, the amounts are %v", d, flour, got, a)
			}
		}
	}
}

func TestSaltAfter(t *testing.T) {
	cases := []struct{ grams, missing, want int }{
		{925, 10, 10}, {1, 0, 0}, {1, 1, 1000}, {1000, 1, 1}, {1001, 1, 0}, {999, 1, 1}, {1000000, 1000000, 1000}, {1000000, 999, 0}, {1000000, 1000, 1}, {1000000, 0, 0}, {3, 2, 666}, {3, 1, 333},
	}
	for _, c := range cases {
		if got := impl.SaltAfter(c.grams, c.missing); got != c.want {
			t.Errorf("SaltAfter(%d, %d) = %d, want %d", c.grams, c.missing, got, c.want)
		}
	}
	for _, n := range outside(1, 1000000) {
		for _, missing := range []int{0, 1, n} {
			if got := impl.SaltAfter(n, missing); got != -1 {
				t.Errorf("SaltAfter(%d, %d) = %d, want -1", n, missing, got)
			}
		}
	}
	for _, grams := range []int{1, 925, 1000000} {
		for _, n := range outside(0, grams) {
			if got := impl.SaltAfter(grams, n); got != -1 {
				t.Errorf("SaltAfter(%d, %d) = %d, want -1", grams, n, got)
			}
		}
		for missing := 0; missing <= grams; missing += 1 + missing/3 {
			got := impl.SaltAfter(grams, missing)
			if got*grams > missing*1000 || (got+1)*grams <= missing*1000 {
				t.Errorf("SaltAfter(%d, %d) = %d", grams, missing, got)
			}
		}
	}
}
