package tests

import (
	"slices"
	"testing"

	"loop.example/g03310/impl"
)

// doughs are valid, with each part at its bounds and between them.
func doughs() []impl.Dough {
	return []impl.Dough{
		{Water: 300}, {Water: 1200, Salt: 50, Leaven: 500}, {Water: 1200}, {Water: 300, Salt: 50},
		{Water: 300, Leaven: 500}, {Water: 650, Salt: 20, Leaven: 200}, {Water: 701, Salt: 19, Leaven: 333},
		{Water: 1000, Salt: 0, Leaven: 0}, {Water: 999, Salt: 1, Leaven: 1},
	}
}

// badDoughs have one part that is not in its range.
func badDoughs() []impl.Dough {
	list := []impl.Dough{{}}
	for _, n := range outside(300, 1200) {
		list = append(list, impl.Dough{Water: n, Salt: 20, Leaven: 200})
	}
	for _, n := range outside(0, 50) {
		list = append(list, impl.Dough{Water: 650, Salt: n, Leaven: 200})
	}
	for _, n := range outside(0, 500) {
		list = append(list, impl.Dough{Water: 650, Salt: 20, Leaven: n})
	}
	return list
}

func TestDoughOk(t *testing.T) {
	for _, d := range doughs() {
		if !impl.DoughOk(d) {
			t.Errorf("DoughOk(%v) = false", d)
		}
	}
	for _, d := range badDoughs() {
		if impl.DoughOk(d) {
			t.Errorf("DoughOk(%v) = true", d)
		}
	}
}

func TestWholeParts(t *testing.T) {
	want := []int{1300, 2750, 2200, 1350, 1800, 1870, 2053, 2000, 2001}
	for i, d := range doughs() {
		if got := impl.WholeParts(d); got != want[i] {
			t.Errorf("WholeParts(%v) = %d, want %d", d, got, want[i])
		}
	}
}

func TestFunctionsOfBadDoughs(t *testing.T) {
	good := impl.Dough{Water: 650, Salt: 20, Leaven: 200}
	for _, d := range badDoughs() {
		if got := impl.WholeParts(d); got != -1 {
			t.Errorf("WholeParts(%v) = %d, want -1", d, got)
		}
		if got := impl.FlourFor(d, 100); got != -1 {
			t.Errorf("FlourFor(%v, 100) = %d, want -1", d, got)
		}
		if got := impl.FlourFor(d, 0); got != -1 {
			t.Errorf("FlourFor(%v, 0) = %d, want -1", d, got)
		}
		if got := impl.Amounts(d, 100); got != nil {
			t.Errorf("Amounts(%v, 100) = %v, want nil", d, got)
		}
		if got := impl.DoughWeight(d, 100); got != -1 {
			t.Errorf("DoughWeight(%v, 100) = %d, want -1", d, got)
		}
		if a, b, c := impl.Firmer(d, good), impl.Firmer(good, d), impl.Firmer(d, d); a != 0 || b != 0 || c != 0 {
			t.Errorf("Firmer with %v = %d, %d and %d; want 0", d, a, b, c)
		}
	}
}

// The least flour makes enough dough, and one gram less does not.
func TestLeastFlour(t *testing.T) {
	check := func(d impl.Dough, weight int) {
		parts := 1000 + d.Water + d.Salt + d.Leaven
		flour := impl.FlourFor(d, weight)
		if flour < 0 || flour*parts/1000 < weight {
			t.Errorf("FlourFor(%v, %d) = %d: not enough dough", d, weight, flour)
		}
		if flour > 0 && (flour-1)*parts/1000 >= weight {
			t.Errorf("FlourFor(%v, %d) = %d: one gram less is enough", d, weight, flour)
		}
	}
	for _, d := range doughs() {
		for weight := range 3000 {
			check(d, weight)
			check(d, 1000000-weight)
		}
	}
}

func TestFlourFor(t *testing.T) {
	d := impl.Dough{Water: 650, Salt: 20, Leaven: 200}
	cases := []struct{ weight, want int }{
		{0, 0}, {1, 1}, {2, 2}, {3, 2}, {4, 3}, {934, 500}, {935, 500}, {936, 501}, {1870, 1000}, {1871, 1001}, {1000000, 534760},
	}
	for _, c := range cases {
		if got := impl.FlourFor(d, c.weight); got != c.want {
			t.Errorf("FlourFor(%v, %d) = %d, want %d", d, c.weight, got, c.want)
		}
	}
	for _, weight := range outside(0, 1000000) {
		if got := impl.FlourFor(d, weight); got != -1 {
			t.Errorf("FlourFor(%v, %d) = %d, want -1", d, weight, got)
		}
	}
}

func TestPartOf(t *testing.T) {
	cases := []struct{ flour, part, want int }{
		{0, 0, 0}, {0, 2000, 0}, {1000000, 0, 0}, {1000, 7, 7}, {333, 20, 7}, {500, 650, 325},
		{24, 20, 0}, {25, 20, 1}, {74, 20, 1}, {75, 20, 2}, {125, 20, 3},
		{1, 499, 0}, {1, 500, 1}, {1, 501, 1}, {1, 1499, 1}, {1, 1500, 2}, {1, 2000, 2}, {3, 500, 2}, {5, 500, 3},
		{1000000, 2000, 2000000}, {999999, 2000, 1999998}, {999999, 1999, 1998998}, {999999, 500, 500000},
	}
	for _, c := range cases {
		if got := impl.PartOf(c.flour, c.part); got != c.want {
			t.Errorf("PartOf(%d, %d) = %d, want %d", c.flour, c.part, got, c.want)
		}
	}
	for _, flour := range outside(0, 1000000) {
		if got := impl.PartOf(flour, 20); got != -1 {
			t.Errorf("PartOf(%d, 20) = %d, want -1", flour, got)
		}
	}
	for _, part := range outside(0, 2000) {
		if got := impl.PartOf(500, part); got != -1 {
			t.Errorf("PartOf(500, %d) = %d, want -1", part, got)
		}
	}
}

// No whole number is closer, and of two that are as close it is the greater one.
func TestPartOfIsTheNearest(t *testing.T) {
	for flour := 0; flour <= 1000000; flour = flour*2 + 7 {
		for part := 0; part <= 2000; part++ {
			over := impl.PartOf(flour, part)*1000 - flour*part
			if over <= -500 || over > 500 {
				t.Errorf("PartOf(%d, %d) is off by %d thousandths", flour, part, over)
			}
		}
	}
}

func TestAmounts(t *testing.T) {
	cases := []struct {
		d      impl.Dough
		flour  int
		want   []int
		weight int
	}{
		{impl.Dough{Water: 650, Salt: 20, Leaven: 200}, 500, []int{500, 325, 10, 100}, 935},
		{impl.Dough{Water: 650, Salt: 20, Leaven: 200}, 0, []int{0, 0, 0, 0}, 0},
		{impl.Dough{Water: 500, Salt: 0, Leaven: 100}, 5, []int{5, 3, 0, 1}, 9},
		{impl.Dough{Water: 499, Salt: 50, Leaven: 499}, 1, []int{1, 0, 0, 0}, 1},
		{impl.Dough{Water: 500, Salt: 50, Leaven: 500}, 1, []int{1, 1, 0, 1}, 3},
		{impl.Dough{Water: 300}, 10, []int{10, 3, 0, 0}, 13},
		{impl.Dough{Water: 1200, Salt: 50, Leaven: 500}, 1000000, []int{1000000, 1200000, 50000, 500000}, 2750000},
	}
	for _, c := range cases {
		if got := impl.Amounts(c.d, c.flour); !slices.Equal(got, c.want) {
			t.Errorf("Amounts(%v, %d) = %v, want %v", c.d, c.flour, got, c.want)
		}
		if got := impl.DoughWeight(c.d, c.flour); got != c.weight {
			t.Errorf("DoughWeight(%v, %d) = %d, want %d", c.d, c.flour, got, c.weight)
		}
	}
	d := impl.Dough{Water: 650, Salt: 20, Leaven: 200}
	for _, flour := range outside(0, 1000000) {
		if got := impl.Amounts(d, flour); got != nil {
			t.Errorf("Amounts(%v, %d) = %v, want nil", d, flour, got)
		}
		if got := impl.DoughWeight(d, flour); got != -1 {
			t.Errorf("DoughWeight(%v, %d) = %d, want -1", d, flour, got)
		}
	}
}

func TestAmountsHaveMemoryOfTheirOwn(t *testing.T) {
	d := impl.Dough{Water: 650, Salt: 20, Leaven: 200}
	first := impl.Amounts(d, 500)
	clear(first)
	if second := impl.Amounts(d, 500); !slices.Equal(second, []int{500, 325, 10, 100}) {
		t.Errorf("Amounts = %v after an earlier result was changed", second)
	}
}

func TestFirmer(t *testing.T) {
	cases := []struct {
		a, b impl.Dough
		want int
	}{
		{impl.Dough{Water: 650}, impl.Dough{Water: 700}, -1},
		{impl.Dough{Water: 700}, impl.Dough{Water: 650}, 1},
		{impl.Dough{Water: 650}, impl.Dough{Water: 650}, 0},
		{impl.Dough{Water: 650, Salt: 50, Leaven: 500}, impl.Dough{Water: 650}, 0},
		{impl.Dough{Water: 650, Salt: 50, Leaven: 500}, impl.Dough{Water: 651}, -1},
		{impl.Dough{Water: 1200}, impl.Dough{Water: 300, Salt: 50, Leaven: 500}, 1},
	}
	for _, c := range cases {
		if got := impl.Firmer(c.a, c.b); got != c.want {
			t.Errorf("Firmer(%v, %v) = %d, want %d", c.a, c.b, got, c.want)
		}
	}
}
