package tests

import (
	"math"
	"testing"

	"loop.example/g03310/impl"
)

func TestWaterFor(t *testing.T) {
	cases := []struct{ want, flour, room, friction, water int }{
		{24, 20, 22, 4, 26}, {60, -20, -20, -20, 240}, {-20, 60, 60, 60, -240}, {0, 0, 0, 0, 0}, {1, 0, 0, 0, 3}, {0, 1, 0, 0, -1}, {0, 0, 1, 0, -1}, {0, 0, 0, 1, -1}, {-20, -20, -20, -20, 0}, {60, 60, 60, 60, 0}, {-1, -2, -3, -4, 6},
	}
	for _, c := range cases {
		if got := impl.WaterFor(c.want, c.flour, c.room, c.friction); got != c.water {
			t.Errorf("WaterFor(%d, %d, %d, %d) = %d, want %d", c.want, c.flour, c.room, c.friction, got, c.water)
		}
	}
	for _, n := range outside(-20, 60) {
		for _, c := range [][4]int{{n, 20, 22, 4}, {24, n, 22, 4}, {24, 20, n, 4}, {24, 20, 22, n}, {n, n, n, n}} {
			if got := impl.WaterFor(c[0], c[1], c[2], c[3]); got != -1000 {
				t.Errorf("WaterFor(%v) = %d, want -1000", c, got)
			}
			if impl.CanReach(c[0], c[1], c[2], c[3]) {
				t.Errorf("CanReach(%v) = true", c)
			}
		}
	}
}

func TestDoughHeat(t *testing.T) {
	cases := []struct{ water, flour, room, friction, heat int }{
		{26, 20, 22, 4, 24}, {27, 20, 22, 4, 24}, {28, 20, 22, 4, 24}, {29, 20, 22, 4, 25}, {200, 200, 200, 200, 266}, {-200, -200, -200, -200, -267}, {0, 0, 0, 0, 0}, {0, 0, 0, 2, 0}, {0, 0, 3, 0, 1},
	}
	for _, c := range cases {
		if got := impl.DoughHeat(c.water, c.flour, c.room, c.friction); got != c.heat {
			t.Errorf("DoughHeat(%d, %d, %d, %d) = %d, want %d", c.water, c.flour, c.room, c.friction, got, c.heat)
		}
	}
	for _, n := range outside(-200, 200) {
		for _, c := range [][4]int{{n, 20, 22, 4}, {26, n, 22, 4}, {26, 20, n, 4}, {26, 20, 22, n}, {n, n, n, n}} {
			if got := impl.DoughHeat(c[0], c[1], c[2], c[3]); got != -1000 {
				t.Errorf("DoughHeat(%v) = %d, want -1000", c, got)
			}
		}
	}
}

// Below 0, the heat of the dough is rounded toward less.
func TestNegativeHeats(t *testing.T) {
	for sum := -200; sum <= 200; sum++ {
		want := int(math.Floor(float64(sum) / 3))
		parts := [][4]int{{sum, 0, 0, 0}, {0, sum, 0, 0}, {0, 0, sum, 0}, {0, 0, 0, sum}, {100, sum / 2, sum - sum/2, -100}}
		for _, c := range parts {
			if got := impl.DoughHeat(c[0], c[1], c[2], c[3]); got != want {
				t.Errorf("DoughHeat(%v) = %d, want %d", c, got, want)
			}
		}
	}
	if got := impl.WaterFor(-5, -3, -2, 1); got != -11 {
		t.Errorf("WaterFor(-5, -3, -2, 1) = %d, want -11", got)
	}
	if impl.CanReach(-5, -3, -2, 1) || !impl.CanReach(-5, -20, 0, 4) || impl.CanReach(-5, -19, 0, 4) {
		t.Error("CanReach is wrong for a dough of -5 degrees")
	}
}

// The right water gives the right dough.
func TestRightWater(t *testing.T) {
	for want := -20; want <= 60; want += 3 {
		for flour := -20; flour <= 60; flour += 4 {
			for room := -20; room <= 60; room += 5 {
				for friction := -20; friction <= 60; friction += 8 {
					checkWater(t, want, flour, room, friction)
				}
			}
		}
	}
}

func checkWater(t *testing.T, want, flour, room, friction int) {
	t.Helper()
	water := impl.WaterFor(want, flour, room, friction)
	if water+flour+room+friction != 3*want {
		t.Errorf("WaterFor(%d, %d, %d, %d) = %d", want, flour, room, friction, water)
	}
	if got := impl.CanReach(want, flour, room, friction); got != (1 <= water && water <= 60) {
		t.Errorf("CanReach(%d, %d, %d, %d) = %v with water of %d", want, flour, room, friction, got, water)
	}
	if water < -200 || water > 200 {
		return
	}
	if got := impl.DoughHeat(water, flour, room, friction); got != want {
		t.Errorf("DoughHeat(%d, %d, %d, %d) = %d, want %d", water, flour, room, friction, got, want)
	}
	if got := impl.DoughHeat(water-1, flour, room, friction); water > -200 && got != want-1 {
		t.Errorf("DoughHeat(%d, %d, %d, %d) = %d, want %d", water-1, flour, room, friction, got, want-1)
	}
}

func TestCanReach(t *testing.T) {
	cases := []struct {
		want, flour, room, friction int
		can                         bool
	}{
		{24, 20, 22, 4, true}, {24, 40, 30, 4, false}, {24, 40, 31, 0, true}, {24, 40, 32, 0, false}, {24, 12, 0, 0, true}, {24, 11, 0, 0, false}, {20, 20, 20, 19, true}, {20, 20, 20, 20, false}, {20, 0, 0, 0, true}, {20, 0, 0, -1, false},
	}
	for _, c := range cases {
		if got := impl.CanReach(c.want, c.flour, c.room, c.friction); got != c.can {
			t.Errorf("CanReach(%d, %d, %d, %d) = %v", c.want, c.flour, c.room, c.friction, got)
		}
	}
}

func TestIceFor(t *testing.T) {
	cases := []struct{ water, grams, want int }{
		{10, 900, 100}, {10, 901, 101}, {10, 909, 101}, {10, 910, 102}, {20, 900, 0}, {21, 900, 0}, {60, 100000, 0}, {19, 900, 12}, {0, 900, 180}, {0, 100000, 20000}, {0, 0, 0}, {0, 1, 1}, {19, 1, 1}, {19, 0, 0}, {19, 81, 1}, {19, 82, 2}, {20, 0, 0}, {0, 5, 1}, {0, 6, 2},
	}
	for _, c := range cases {
		if got := impl.IceFor(c.water, c.grams); got != c.want {
			t.Errorf("IceFor(%d, %d) = %d, want %d", c.water, c.grams, got, c.want)
		}
	}
	for _, n := range outside(0, 60) {
		for _, grams := range []int{0, 900} {
			if got := impl.IceFor(n, grams); got != -1 {
				t.Errorf("IceFor(%d, %d) = %d, want -1", n, grams, got)
			}
		}
	}
	for _, n := range outside(0, 100000) {
		for _, water := range []int{0, 10, 20, 60} {
			if got := impl.IceFor(water, n); got != -1 {
				t.Errorf("IceFor(%d, %d) = %d, want -1", water, n, got)
			}
		}
	}
}

// The ice is enough, and one gram less is too little.
func TestOneGramOfIceLess(t *testing.T) {
	for water := 0; water <= 60; water++ {
		for grams := 0; grams <= 100000; grams += 1 + grams/150 {
			n := impl.IceFor(water, grams)
			if n < 0 || n*80 < (20-water)*(grams-n) {
				t.Errorf("IceFor(%d, %d) = %d is too little", water, grams, n)
			}
			if n > 0 && (n-1)*80 >= (20-water)*(grams-n+1) {
				t.Errorf("IceFor(%d, %d) = %d, and one gram less is enough", water, grams, n)
			}
		}
	}
}

func TestHottestFlour(t *testing.T) {
	cases := []struct{ want, room, friction, flour int }{
		{24, 22, 4, 45}, {60, 60, 60, 59}, {60, 60, 59, 60}, {60, 0, 60, 60}, {60, 0, 59, -1000}, {60, -20, 60, -1000}, {60, 60, 0, 60}, {40, 0, 0, 60}, {41, 0, 0, -1000}, {20, 0, -1, 60}, {20, -20, -20, 60},
		{0, 0, 0, -1}, {0, 19, 0, -20}, {0, 20, 0, -1000}, {0, 10, 9, -20}, {0, 60, 60, -1000}, {-20, -20, -20, -1000},
	}
	for _, c := range cases {
		if got := impl.HottestFlour(c.want, c.room, c.friction); got != c.flour {
			t.Errorf("HottestFlour(%d, %d, %d) = %d, want %d", c.want, c.room, c.friction, got, c.flour)
		}
	}
	for _, n := range outside(-20, 60) {
		for _, c := range [][3]int{{n, 22, 4}, {24, n, 4}, {24, 22, n}, {n, n, n}} {
			if got := impl.HottestFlour(c[0], c[1], c[2]); got != -1000 {
				t.Errorf("HottestFlour(%v) = %d, want -1000", c, got)
			}
		}
	}
}

func TestHottestFlourByTrying(t *testing.T) {
	for want := -20; want <= 60; want += 2 {
		for room := -20; room <= 60; room += 5 {
			for friction := -20; friction <= 60; friction += 3 {
				hottest := -1000
				for flour := -20; flour <= 60; flour++ {
					if water := 3*want - flour - room - friction; 1 <= water && water <= 60 {
						hottest = flour
					}
				}
				if got := impl.HottestFlour(want, room, friction); got != hottest {
					t.Errorf("HottestFlour(%d, %d, %d) = %d, want %d", want, room, friction, got, hottest)
				}
			}
		}
	}
}
