package tests

import (
	"slices"
	"testing"

	"loop.example/g03310/impl"
)

func TestLayersAfter(t *testing.T) {
	cases := []struct {
		folds []int
		want  int
	}{
		{nil, 1}, {[]int{2}, 2}, {[]int{3}, 3}, {[]int{4}, 4}, {[]int{3, 3, 4}, 36}, {[]int{4, 3, 2}, 24}, {[]int{2, 3, 4}, 24},
		{repeated(8, 2), 256}, {repeated(9, 2), -1}, {repeated(8, 3), 6561}, {repeated(9, 3), -1}, {repeated(6, 4), 4096}, {repeated(7, 4), -1}, {repeated(8, 4), -1}, {repeated(100, 4), -1},
		{[]int{4, 4, 4, 4, 4, 3, 3}, 9216}, {[]int{4, 3, 3, 3, 3, 3, 3, 3}, 8748}, {[]int{4, 4, 4, 2, 3, 3, 3, 3}, -1}, {[]int{2, 3, 3, 3, 3, 4, 4, 4}, -1}, {[]int{4, 4, 4, 4, 4, 4, 2}, 8192},
	}
	for _, c := range cases {
		if got := impl.LayersAfter(c.folds); got != c.want {
			t.Errorf("LayersAfter(%v) = %d, want %d", c.folds, got, c.want)
		}
	}
	for _, n := range outside(2, 4) {
		for _, folds := range [][]int{{n}, {n, 2}, {4, 3, n}, {n, n}, {0, n}} {
			if got := impl.LayersAfter(folds); got != -1 {
				t.Errorf("LayersAfter(%v) = %d, want -1", folds, got)
			}
		}
	}
	for _, folds := range [][]int{{0}, {1}, {2, 0}, {1, 1}, {-2, -2}, {5000, 2}} {
		if got := impl.LayersAfter(folds); got != -1 {
			t.Errorf("LayersAfter(%v) = %d, want -1", folds, got)
		}
	}
}

// shortestFolds returns, for each number of layers, the first one of the
// shortest lists in descending order.
func shortestFolds() map[int][]int {
	shortest := map[int][]int{}
	for fours := range 8 {
		for threes := range 10 {
			for twos := range 15 {
				folds := slices.Concat(repeated(fours, 4), repeated(threes, 3), repeated(twos, 2))
				layers := 1
				for _, f := range folds {
					layers *= f
				}
				old, ok := shortest[layers]
				if !ok || len(folds) < len(old) || len(folds) == len(old) && slices.Compare(folds, old) < 0 {
					shortest[layers] = folds
				}
			}
		}
	}
	return shortest
}

// The shortest folds make the layers, and other layers are not possible.
func TestFoldsForAllLayers(t *testing.T) {
	shortest := shortestFolds()
	possible := 0
	for layers := 1; layers <= 10000; layers++ {
		want, ok := shortest[layers]
		got, is := impl.FoldsFor(layers)
		if is != ok || !slices.Equal(got, want) {
			t.Errorf("FoldsFor(%d) = %v, %v; want %v, %v", layers, got, is, want, ok)
		}
		if !is && got != nil {
			t.Errorf("FoldsFor(%d) = %v, false", layers, got)
		}
		if is {
			possible++
			if made := impl.LayersAfter(got); made != layers {
				t.Errorf("LayersAfter(FoldsFor(%d)) = %d", layers, made)
			}
		}
	}
	if possible != 67 {
		t.Errorf("%d numbers of layers are possible, want 67", possible)
	}
}

func TestFoldsFor(t *testing.T) {
	cases := []struct {
		layers int
		want   []int
	}{
		{1, nil}, {2, []int{2}}, {3, []int{3}}, {4, []int{4}}, {6, []int{3, 2}}, {8, []int{4, 2}}, {9, []int{3, 3}}, {12, []int{4, 3}}, {24, []int{4, 3, 2}}, {16, []int{4, 4}},
		{36, []int{4, 3, 3}}, {6561, repeated(8, 3)}, {9216, []int{4, 4, 4, 4, 4, 3, 3}}, {8192, []int{4, 4, 4, 4, 4, 4, 2}},
	}
	for _, c := range cases {
		if got, ok := impl.FoldsFor(c.layers); !ok || !slices.Equal(got, c.want) {
			t.Errorf("FoldsFor(%d) = %v, %v; want %v, true", c.layers, got, ok, c.want)
		}
	}
	for _, layers := range []int{5, 7, 10, 14, 15, 25, 9999, 10000, 10368, -8, -1} {
		if got, ok := impl.FoldsFor(layers); ok || got != nil {
			t.Errorf("FoldsFor(%d) = %v, %v; want nil, false", layers, got, ok)
		}
	}
	for _, layers := range outside(1, 10000) {
		if got, ok := impl.FoldsFor(layers); ok || got != nil {
			t.Errorf("FoldsFor(%d) = %v, %v; want nil, false", layers, got, ok)
		}
	}
}

func TestClosestLayers(t *testing.T) {
	cases := []struct{ want, folds, closest int }{
		{10, 2, 9}, {7, 2, 6}, {5, 2, 4}, {1, 2, 4}, {14, 2, 12}, {15, 2, 16}, {17, 2, 16}, {10000, 2, 16}, {3, 1, 3}, {1, 1, 2}, {9, 1, 4},
		{1, 0, 1}, {10000, 0, 1}, {10000, 6, 4096}, {1, 6, 64}, {80, 6, 64}, {81, 6, 96}, {10, 3, 8}, {11, 3, 12},
	}
	for _, c := range cases {
		if got := impl.ClosestLayers(c.want, c.folds); got != c.closest {
			t.Errorf("ClosestLayers(%d, %d) = %d, want %d", c.want, c.folds, got, c.closest)
		}
	}
	for _, n := range outside(1, 10000) {
		for _, folds := range []int{0, 2, 6} {
			if got := impl.ClosestLayers(n, folds); got != -1 {
				t.Errorf("ClosestLayers(%d, %d) = %d, want -1", n, folds, got)
			}
		}
	}
	for _, n := range outside(0, 6) {
		if got := impl.ClosestLayers(10, n); got != -1 {
			t.Errorf("ClosestLayers(10, %d) = %d, want -1", n, got)
		}
	}
}

// productsOf returns the products of n numbers 2, 3 or 4, in ascending order.
func productsOf(n int) []int {
	products := []int{1}
	for range n {
		var longer []int
		for _, p := range products {
			longer = append(longer, 2*p, 3*p, 4*p)
		}
		products = longer
	}
	slices.Sort(products)
	return slices.Compact(products)
}

func TestClosestLayersByTrying(t *testing.T) {
	for folds := range 7 {
		products := productsOf(folds)
		for want := 1; want <= 10000; want += 1 + want/500 {
			closest := products[0]
			for _, p := range products {
				if max(p-want, want-p) < max(closest-want, want-closest) {
					closest = p
				}
			}
			if got := impl.ClosestLayers(want, folds); got != closest {
				t.Errorf("ClosestLayers(%d, %d) = %d, want %d", want, folds, got, closest)
			}
		}
	}
}

func TestThicknessOf(t *testing.T) {
	cases := []struct {
		folds  []int
		rolled int
		want   int
	}{
		{[]int{3, 3}, 1000, 111}, {nil, 1000, 1000}, {nil, 1, 1}, {[]int{2}, 1, 0}, {[]int{2}, 2, 1}, {[]int{2}, 3, 1}, {[]int{4, 4, 4, 4, 4, 3, 3}, 100000, 10}, {repeated(8, 2), 511, 1}, {repeated(8, 2), 512, 2},
	}
	for _, c := range cases {
		if got := impl.ThicknessOf(c.folds, c.rolled); got != c.want {
			t.Errorf("ThicknessOf(%v, %d) = %d, want %d", c.folds, c.rolled, got, c.want)
		}
	}
	for _, n := range outside(1, 100000) {
		for _, folds := range [][]int{nil, {3}} {
			if got := impl.ThicknessOf(folds, n); got != -1 {
				t.Errorf("ThicknessOf(%v, %d) = %d, want -1", folds, n, got)
			}
		}
	}
	for _, folds := range [][]int{{5}, {1}, {0}, {3, 3, -1}, repeated(9, 2), repeated(7, 4)} {
		if got := impl.ThicknessOf(folds, 1000); got != -1 {
			t.Errorf("ThicknessOf(%v, 1000) = %d, want -1", folds, got)
		}
	}
}

// countLists counts all lists of numbers 2, 3 and 4, by their product.
func countLists(counts map[int]int, layers int) {
	if layers > 10000 {
		return
	}
	counts[layers]++
	for fold := 2; fold <= 4; fold++ {
		countLists(counts, layers*fold)
	}
}

func TestCountFoldings(t *testing.T) {
	counts := map[int]int{}
	countLists(counts, 1)
	for layers := 1; layers <= 10000; layers++ {
		if got := impl.CountFoldings(layers); got != counts[layers] {
			t.Errorf("CountFoldings(%d) = %d, want %d", layers, got, counts[layers])
		}
	}
	cases := []struct{ layers, want int }{{1, 1}, {2, 1}, {3, 1}, {4, 2}, {5, 0}, {6, 2}, {7, 0}, {8, 3}, {12, 5}, {16, 5}, {8192, 377}, {6561, 1}, {10000, 0}}
	for _, c := range cases {
		if got := impl.CountFoldings(c.layers); got != c.want {
			t.Errorf("CountFoldings(%d) = %d, want %d", c.layers, got, c.want)
		}
	}
	for _, layers := range outside(1, 10000) {
		if got := impl.CountFoldings(layers); got != -1 {
			t.Errorf("CountFoldings(%d) = %d, want -1", layers, got)
		}
	}
}

func TestFoldsAreNotChanged(t *testing.T) {
	folds := []int{3, 3, 4}
	given := withSpare(folds, 77)
	impl.LayersAfter(given)
	impl.ThicknessOf(given, 1000)
	checkUntouched(t, given, folds, 77)
	first, _ := impl.FoldsFor(24)
	clear(first)
	if again, _ := impl.FoldsFor(24); !slices.Equal(again, []int{4, 3, 2}) {
		t.Errorf("FoldsFor(24) has become %v", again)
	}
}
