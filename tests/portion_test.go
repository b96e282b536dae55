package tests

import (
	"slices"
	"testing"

	"loop.example/g03310/impl"
)

// badLoaves have a weight or a loss that is not in its range.
func badLoaves() []impl.Loaf {
	list := []impl.Loaf{{}}
	for _, n := range outside(10, 5000) {
		list = append(list, impl.Loaf{Weight: n, Loss: 15})
	}
	for _, n := range outside(0, 40) {
		list = append(list, impl.Loaf{Weight: 500, Loss: n})
	}
	return list
}

// leftOf returns what is left of a dough, with the loss counted gram by gram.
func leftOf(dough int, loss int) int {
	lost := 0
	for lost*100 < dough*loss {
		lost++
	}
	return dough - lost
}

func TestLoafOk(t *testing.T) {
	for _, l := range []impl.Loaf{{Weight: 10}, {Weight: 5000}, {Weight: 10, Loss: 40}, {Weight: 5000, Loss: 40}, {Weight: 500, Loss: 15}} {
		if !impl.LoafOk(l) {
			t.Errorf("LoafOk(%v) = false", l)
		}
	}
	for _, l := range badLoaves() {
		if impl.LoafOk(l) {
			t.Errorf("LoafOk(%v) = true", l)
		}
	}
}

func TestFunctionsOfBadLoaves(t *testing.T) {
	for _, l := range badLoaves() {
		if got := impl.DoughFor(l); got != -1 {
			t.Errorf("DoughFor(%v) = %d, want -1", l, got)
		}
		if got := impl.BakedWeight(l, 100); got != -1 {
			t.Errorf("BakedWeight(%v, 100) = %d, want -1", l, got)
		}
		if got := impl.LoavesFrom(l, 1000); got != -1 {
			t.Errorf("LoavesFrom(%v, 1000) = %d, want -1", l, got)
		}
		good := impl.Loaf{Weight: 500, Loss: 15}
		for _, list := range [][]impl.Loaf{{l}, {l, good}, {good, l}} {
			if got := impl.DoughForAll(list, repeated(len(list), 1)); got != -1 {
				t.Errorf("DoughForAll(%v, 1 each) = %d, want -1", list, got)
			}
			if got := impl.DoughForAll(list, repeated(len(list), 0)); got != -1 {
				t.Errorf("DoughForAll(%v, none) = %d, want -1", list, got)
			}
		}
	}
}

func TestDoughFor(t *testing.T) {
	cases := []struct{ weight, loss, want int }{
		{500, 15, 589}, {100, 0, 100}, {10, 0, 10}, {5000, 0, 5000}, {10, 1, 11}, {10, 40, 17}, {5000, 40, 8334},
		{99, 1, 100}, {100, 1, 102}, {50, 40, 84}, {85, 15, 100}, {90, 10, 100}, {91, 10, 102},
	}
	for _, c := range cases {
		if got := impl.DoughFor(impl.Loaf{Weight: c.weight, Loss: c.loss}); got != c.want {
			t.Errorf("DoughFor(%d, %d) = %d, want %d", c.weight, c.loss, got, c.want)
		}
	}
}

// Dough for a loaf is enough after baking, and one gram less is not.
func TestLeastDough(t *testing.T) {
	for loss := 0; loss <= 40; loss++ {
		for weight := 10; weight <= 5000; weight += 1 + weight/50 {
			l := impl.Loaf{Weight: weight, Loss: loss}
			dough := impl.DoughFor(l)
			if leftOf(dough, loss) < weight || leftOf(dough-1, loss) >= weight {
				t.Errorf("DoughFor(%v) = %d, of which %d are left, and of one gram less %d", l, dough, leftOf(dough, loss), leftOf(dough-1, loss))
			}
			if impl.BakedWeight(l, dough) < weight || impl.BakedWeight(l, dough-1) >= weight {
				t.Errorf("DoughFor(%v) = %d: BakedWeight is %d, and of one gram less %d", l, dough, impl.BakedWeight(l, dough), impl.BakedWeight(l, dough-1))
			}
		}
	}
}

// A loaf without loss needs the dough that it weighs.
func TestLoavesWithoutLoss(t *testing.T) {
	for weight := 10; weight <= 5000; weight++ {
		l := impl.Loaf{Weight: weight}
		if got := impl.DoughFor(l); got != weight {
			t.Errorf("DoughFor(%v) = %d, want %d", l, got, weight)
		}
		if got := impl.BakedWeight(l, weight); got != weight {
			t.Errorf("BakedWeight(%v, %d) = %d", l, weight, got)
		}
		if got := impl.LoavesFrom(l, 7*weight); got != 7 {
			t.Errorf("LoavesFrom(%v, %d) = %d, want 7", l, 7*weight, got)
		}
		if got := impl.LoavesFrom(l, 7*weight-1); got != 6 {
			t.Errorf("LoavesFrom(%v, %d) = %d, want 6", l, 7*weight-1, got)
		}
	}
}

func TestBakedWeight(t *testing.T) {
	cases := []struct{ loss, dough, want int }{
		{15, 589, 500}, {15, 588, 499}, {15, 100, 85}, {15, 101, 85}, {15, 1, 0}, {40, 1, 0}, {40, 2, 1}, {40, 5, 3}, {40, 10000, 6000},
		{0, 0, 0}, {0, 1, 1}, {0, 10000, 10000}, {40, 0, 0}, {1, 99, 98}, {1, 100, 99}, {1, 101, 99}, {1, 9999, 9899},
	}
	for _, c := range cases {
		for _, weight := range []int{10, 500, 5000} {
			if got := impl.BakedWeight(impl.Loaf{Weight: weight, Loss: c.loss}, c.dough); got != c.want {
				t.Errorf("BakedWeight({%d %d}, %d) = %d, want %d", weight, c.loss, c.dough, got, c.want)
			}
		}
	}
	l := impl.Loaf{Weight: 500, Loss: 15}
	for dough := 0; dough <= 10000; dough += 7 {
		if got := impl.BakedWeight(l, dough); got != leftOf(dough, 15) {
			t.Errorf("BakedWeight(%v, %d) = %d, want %d", l, dough, got, leftOf(dough, 15))
		}
	}
	for _, dough := range outside(0, 10000) {
		if got := impl.BakedWeight(l, dough); got != -1 {
			t.Errorf("BakedWeight(%v, %d) = %d, want -1", l, dough, got)
		}
	}
}

func TestLoavesFrom(t *testing.T) {
	l := impl.Loaf{Weight: 500, Loss: 15}
	cases := []struct{ dough, want int }{
		{0, 0}, {1, 0}, {588, 0}, {589, 1}, {590, 1}, {1177, 1}, {1178, 2}, {1200, 2}, {5890, 10}, {5889, 9}, {10001, 16}, {1000000, 1697},
	}
	for _, c := range cases {
		if got := impl.LoavesFrom(l, c.dough); got != c.want {
			t.Errorf("LoavesFrom(%v, %d) = %d, want %d", l, c.dough, got, c.want)
		}
	}
	if got := impl.LoavesFrom(impl.Loaf{Weight: 10}, 1000000); got != 100000 {
		t.Errorf("LoavesFrom of the least loaf = %d, want 100000", got)
	}
	if got := impl.LoavesFrom(impl.Loaf{Weight: 5000, Loss: 40}, 1000000); got != 119 {
		t.Errorf("LoavesFrom of the greatest loaf = %d, want 119", got)
	}
	for _, dough := range outside(0, 1000000) {
		if got := impl.LoavesFrom(l, dough); got != -1 {
			t.Errorf("LoavesFrom(%v, %d) = %d, want -1", l, dough, got)
		}
	}
}

func TestDoughForAll(t *testing.T) {
	l, plain := impl.Loaf{Weight: 500, Loss: 15}, impl.Loaf{Weight: 100}
	most := impl.Loaf{Weight: 5000, Loss: 40}
	cases := []struct {
		loaves []impl.Loaf
		counts []int
		want   int
	}{
		{nil, nil, 0},
		{[]impl.Loaf{}, []int{}, 0},
		{[]impl.Loaf{l}, []int{0}, 0},
		{[]impl.Loaf{l}, []int{1}, 589},
		{[]impl.Loaf{l}, []int{500}, 294500},
		{[]impl.Loaf{l, plain}, []int{2, 3}, 1478},
		{[]impl.Loaf{plain, l}, []int{2, 3}, 1967},
		{[]impl.Loaf{l, l}, []int{2, 3}, 2945},
		{repeated(12, most), repeated(12, 500), 12 * 500 * 8334},
		{nil, []int{1}, -1},
		{[]impl.Loaf{l}, nil, -1},
		{[]impl.Loaf{l, plain}, []int{2}, -1},
		{[]impl.Loaf{l}, []int{2, 3}, -1},
		{repeated(13, l), repeated(13, 1), -1},
		{repeated(13, l), repeated(12, 1), -1},
		{repeated(12, l), repeated(13, 1), -1},
		{repeated(13, l), repeated(13, 0), -1},
	}
	for _, c := range cases {
		if got := impl.DoughForAll(c.loaves, c.counts); got != c.want {
			t.Errorf("DoughForAll(%v, %v) = %d, want %d", c.loaves, c.counts, got, c.want)
		}
	}
	for _, n := range outside(0, 500) {
		for _, counts := range [][]int{{n, 1}, {1, n}, {0, n}} {
			if got := impl.DoughForAll([]impl.Loaf{l, plain}, counts); got != -1 {
				t.Errorf("DoughForAll of the counts %v = %d, want -1", counts, got)
			}
		}
	}
}

func TestDoughForAllChangesNothing(t *testing.T) {
	loaves, counts := []impl.Loaf{{Weight: 500, Loss: 15}, {Weight: 100}}, []int{2, 3}
	mark := impl.Loaf{Weight: 7}
	l, c := withSpare(loaves, mark), withSpare(counts, 77)
	impl.DoughForAll(l, c)
	checkUntouched(t, l, slices.Clone(loaves), mark)
	checkUntouched(t, c, slices.Clone(counts), 77)
}
