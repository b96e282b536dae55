package tests

import (
	"math/rand/v2"
	"slices"
	"testing"

	"loop.example/g03310/impl"
)

// someCakes are valid, with parts without value, and with up to as many parts as
// there may be.
func someCakes() [][]int {
	lists := [][]int{
		{0}, {1}, {1000}, {5, 1, 3, 4}, {1, 1, 9, 1}, {0, 0}, {0, 0, 0, 0}, {0, 5}, {5, 0}, {0, 5, 0}, {0, 0, 5, 0, 0, 5, 0}, {3, 3}, {3, 4}, {4, 3}, {9, 1, 1}, {1, 1, 9}, {2, 2, 3, 1, 4}, repeated(40, 1000), repeated(40, 0), repeated(40, 1),
	}
	r := rand.New(rand.NewPCG(31, 0))
	for n := range 150 {
		list := make([]int, n%40+1)
		for i := range list {
			list[i] = r.IntN(2+n*n%1000) * r.IntN(3) / 2
		}
		lists = append(lists, list)
	}
	return lists
}

func badCakes() [][]int {
	lists := [][]int{nil, {}, repeated(41, 1), repeated(41, 0), repeated(500, 1)}
	for _, n := range outside(0, 1000) {
		lists = append(lists, []int{n}, []int{n, 5}, []int{5, n}, []int{5, n, 5})
	}
	return lists
}

func total(values []int) int {
	sum := 0
	for _, v := range values {
		sum += v
	}
	return sum
}

func TestCakeOk(t *testing.T) {
	for _, values := range someCakes() {
		if !impl.CakeOk(values) {
			t.Errorf("CakeOk(%v) = false", values)
		}
	}
	for _, values := range badCakes() {
		if impl.CakeOk(values) {
			t.Errorf("CakeOk(%v) = true", values)
		}
		if k, v := impl.HalfCut(values); k != -1 || v != -1 {
			t.Errorf("HalfCut(%v) = %d, %d; want -1, -1", values, k, v)
		}
		same := repeated(len(values), 1)
		for _, pair := range [][2][]int{{values, same}, {same, values}, {values, values}, {values, {1}}, {{1}, values}} {
			if x, y := impl.Chooser(pair[0], pair[1]); x != -1 || y != -1 {
				t.Errorf("Chooser(%v) = %d, %d; want -1, -1", pair, x, y)
			}
		}
		if cuts, ok := impl.Shares(values, 1); len(cuts) != 0 || ok {
			t.Errorf("Shares(%v, 1) = %v, %v; want nothing, false", values, cuts, ok)
		}
		if got := impl.BestShares(values, 1); got != -1 {
			t.Errorf("BestShares(%v, 1) = %d, want -1", values, got)
		}
	}
}

func TestHalfCut(t *testing.T) {
	cases := []struct {
		values     []int
		cut, worth int
	}{
		{[]int{5, 1, 3, 4}, 2, 6}, {[]int{0}, 0, 0}, {[]int{7}, 0, 0}, {[]int{3, 3}, 1, 3}, {[]int{3, 4}, 1, 3}, {[]int{4, 3}, 1, 3}, {[]int{9, 1, 1}, 1, 2}, {[]int{1, 1, 9}, 2, 2}, {[]int{2, 1, 2}, 1, 2}, {[]int{1, 2, 3, 4}, 3, 4}, {[]int{1, 2, 2, 1}, 2, 3}, {repeated(40, 1000), 20, 20000}, {repeated(39, 1000), 19, 19000},
	}
	for _, c := range cases {
		if cut, worth := impl.HalfCut(c.values); cut != c.cut || worth != c.worth {
			t.Errorf("HalfCut(%v) = %d, %d; want %d, %d", c.values, cut, worth, c.cut, c.worth)
		}
	}
	for _, values := range someCakes() {
		best, difference := 0, total(values)
		for cut := range len(values) + 1 {
			left, right := total(values[:cut]), total(values[cut:])
			if d := max(left-right, right-left); d < difference {
				best, difference = cut, d
			}
		}
		cut, worth := impl.HalfCut(values)
		if want := min(total(values[:best]), total(values[best:])); cut != best || worth != want {
			t.Errorf("HalfCut(%v) = %d, %d; want %d, %d", values, cut, worth, best, want)
		}
	}
}

// Parts without value do not make a side better, and the least cut is taken.
func TestPartsWithoutValue(t *testing.T) {
	cases := []struct {
		values     []int
		cut, worth int
	}{
		{[]int{0, 0, 0}, 0, 0}, {[]int{0, 5, 0}, 0, 0}, {[]int{5, 0}, 0, 0}, {[]int{3, 0, 0, 3}, 1, 3}, {[]int{0, 3, 0, 0, 3, 0}, 2, 3}, {[]int{0, 0, 2, 0, 1}, 3, 1}, {repeated(40, 0), 0, 0},
	}
	for _, c := range cases {
		if cut, worth := impl.HalfCut(c.values); cut != c.cut || worth != c.worth {
			t.Errorf("HalfCut(%v) = %d, %d; want %d, %d", c.values, cut, worth, c.cut, c.worth)
		}
	}
	if x, y := impl.Chooser([]int{0, 0, 0}, []int{1, 2, 3}); x != 0 || y != 6 {
		t.Errorf("Chooser of parts without value = %d, %d; want 0, 6", x, y)
	}
	if x, y := impl.Chooser([]int{1, 2, 3}, []int{0, 0, 0}); x != 3 || y != 0 {
		t.Errorf("Chooser who sees no value = %d, %d; want 3, 0", x, y)
	}
	for n := 1; n <= 10; n++ {
		// Each share ends at once, as it needs nothing but one part.
		var want []int
		for cut := 1; cut < n; cut++ {
			want = append(want, cut)
		}
		if cuts, ok := impl.Shares(repeated(12, 0), n); !ok || !slices.Equal(cuts, want) {
			t.Errorf("Shares of no value into %d = %v, %v; want %v, true", n, cuts, ok, want)
		}
		if got := impl.BestShares(repeated(12, 0), n); got != 0 {
			t.Errorf("BestShares of no value into %d = %d, want 0", n, got)
		}
	}
	if cuts, ok := impl.Shares([]int{0, 2, 0, 0, 2, 0}, 2); !ok || !slices.Equal(cuts, []int{2}) {
		t.Errorf("Shares with parts without value = %v, %v; want [2], true", cuts, ok)
	}
	if got := impl.BestShares([]int{0, 5, 0}, 2); got != 0 {
		t.Errorf("BestShares of one part with value = %d, want 0", got)
	}
	if cuts, ok := impl.Shares([]int{0, 0}, 3); ok || len(cuts) != 0 {
		t.Errorf("Shares of two parts into 3 = %v, %v; want nothing, false", cuts, ok)
	}
}

// Who chooses gets at least half, and who cuts loses nothing by the own cut.
func TestChooser(t *testing.T) {
	cases := []struct {
		mine, yours []int
		x, y        int
	}{
		{[]int{5, 1, 3, 4}, []int{1, 1, 9, 1}, 6, 10}, {[]int{5, 1, 3, 4}, []int{9, 1, 1, 1}, 7, 10}, {[]int{5, 1, 3, 4}, []int{1, 1, 1, 1}, 7, 2}, {[]int{3, 4}, []int{3, 4}, 3, 4}, {[]int{4, 3}, []int{4, 3}, 3, 4}, {[]int{4, 3}, []int{1, 1}, 3, 1}, {[]int{7}, []int{9}, 0, 9}, {[]int{7}, []int{0}, 7, 0}, {[]int{0}, []int{0}, 0, 0}, {[]int{3, 4}, []int{5, 6}, 3, 6}, {[]int{3, 4}, []int{6, 6}, 4, 6}, {[]int{3, 4}, []int{6, 5}, 4, 6},
	}
	for _, c := range cases {
		if x, y := impl.Chooser(c.mine, c.yours); x != c.x || y != c.y {
			t.Errorf("Chooser(%v, %v) = %d, %d; want %d, %d", c.mine, c.yours, x, y, c.x, c.y)
		}
	}
	cakes := someCakes()
	for _, mine := range cakes {
		for _, yours := range cakes {
			x, y := impl.Chooser(mine, yours)
			if len(mine) != len(yours) {
				if x != -1 || y != -1 {
					t.Errorf("Chooser(%v, %v) = %d, %d; want -1, -1", mine, yours, x, y)
				}
				continue
			}
			cut, half := impl.HalfCut(mine)
			left, right := total(yours[:cut]), total(yours[cut:])
			wantX, wantY := total(mine[:cut]), right
			if left >= right {
				wantX, wantY = total(mine[cut:]), left
			}
			if x != wantX || y != wantY || 2*y < total(yours) || x < half {
				t.Errorf("Chooser(%v, %v) = %d, %d; want %d, %d", mine, yours, x, y, wantX, wantY)
			}
		}
	}
}

// sharesOf returns what the shares between cuts are worth, or false if one has
// no part.
func sharesOf(values []int, cuts []int) ([]int, bool) {
	var worth []int
	from := 0
	for _, to := range append(slices.Clone(cuts), len(values)) {
		if to <= from || to > len(values) {
			return nil, false
		}
		worth = append(worth, total(values[from:to]))
		from = to
	}
	return worth, true
}

// leastOfBest returns, by trying all places of the last cut, the greatest value
// that all of n shares of the first k parts can be worth.
func leastOfBest(values []int, k int, n int) int {
	memo := map[[2]int]int{}
	var best func(k int, n int) int
	best = func(k int, n int) int {
		if n == 1 && k > 0 {
			return total(values[:k])
		}
		key := [2]int{k, n}
		if v, ok := memo[key]; ok {
			return v
		}
		greatest := -1
		for cut := n - 1; cut < k; cut++ {
			greatest = max(greatest, min(best(cut, n-1), total(values[cut:k])))
		}
		memo[key] = greatest
		return greatest
	}
	if k < n {
		return -1
	}
	return best(k, n)
}

func TestShares(t *testing.T) {
	cases := []struct {
		values []int
		n      int
		want   []int
		ok     bool
	}{
		{[]int{2, 2, 3, 1, 4}, 3, []int{2, 4}, true}, {[]int{9, 1, 1}, 3, nil, false}, {[]int{9, 1, 1}, 1, nil, true}, {[]int{9, 1, 1}, 2, nil, false}, {[]int{5, 5}, 2, []int{1}, true}, {[]int{5, 4}, 2, nil, false}, {[]int{4, 5}, 2, nil, false}, {[]int{5, 1, 5}, 2, nil, false}, {[]int{5, 2, 7}, 2, []int{2}, true}, {[]int{1, 1, 1, 1}, 4, []int{1, 2, 3}, true}, {[]int{1, 1, 1, 1}, 3, nil, false}, {[]int{1, 1, 1, 1}, 2, []int{2}, true}, {[]int{1, 1, 1, 1}, 5, nil, false}, {[]int{7}, 1, nil, true}, {[]int{7}, 2, nil, false}, {[]int{0}, 2, nil, false}, {[]int{6, 0, 6}, 2, []int{1}, true}, {[]int{3, 3, 0, 3}, 3, []int{1, 2}, true}, {[]int{4, 0, 0}, 2, nil, false}, {repeated(40, 1000), 10, []int{4, 8, 12, 16, 20, 24, 28, 32, 36}, true}, {[]int{10, 3, 3, 4, 1, 9}, 3, []int{1, 4}, true},
	}
	for _, c := range cases {
		if cuts, ok := impl.Shares(c.values, c.n); ok != c.ok || !slices.Equal(cuts, c.want) {
			t.Errorf("Shares(%v, %d) = %v, %v; want %v, %v", c.values, c.n, cuts, ok, c.want, c.ok)
		}
	}
	for _, values := range someCakes() {
		for n := 1; n <= 10; n++ {
			cuts, ok := impl.Shares(values, n)
			if possible := leastOfBest(values, len(values), n)*n >= total(values); ok != possible {
				t.Errorf("Shares(%v, %d) = %v, %v; want %v", values, n, cuts, ok, possible)
			}
			if !ok {
				if len(cuts) != 0 {
					t.Errorf("Shares(%v, %d) = %v, false", values, n, cuts)
				}
				continue
			}
			worth, good := sharesOf(values, cuts)
			if !good || len(worth) != n {
				t.Errorf("Shares(%v, %d) = %v", values, n, cuts)
				continue
			}
			from := 0
			for i, w := range worth {
				if w*n < total(values) {
					t.Errorf("Shares(%v, %d) = %v: share %d is worth %d", values, n, cuts, i, w)
				}
				if i == n-1 {
					break
				}
				// With a part less, a share is not worth enough.
				if cuts[i] > from+1 && total(values[from:cuts[i]-1])*n >= total(values) {
					t.Errorf("Shares(%v, %d) = %v: share %d ends too late", values, n, cuts, i)
				}
				from = cuts[i]
			}
		}
	}
}

func TestBestShares(t *testing.T) {
	cases := []struct {
		values  []int
		n, want int
	}{
		{[]int{9, 1, 1}, 3, 1}, {[]int{9, 1, 1}, 2, 2}, {[]int{9}, 2, -1}, {[]int{9}, 1, 9}, {[]int{0}, 1, 0}, {[]int{0, 0}, 3, -1}, {[]int{5, 1, 3, 4}, 2, 6}, {[]int{5, 1, 3, 4}, 3, 4}, {[]int{5, 1, 3, 4}, 4, 1}, {repeated(40, 1000), 10, 4000}, {repeated(40, 1000), 1, 40000}, {repeated(40, 1000), 3, 13000}, {repeated(10, 1000), 10, 1000}, {repeated(9, 1000), 10, -1},
	}
	for _, c := range cases {
		if got := impl.BestShares(c.values, c.n); got != c.want {
			t.Errorf("BestShares(%v, %d) = %d, want %d", c.values, c.n, got, c.want)
		}
	}
	for _, values := range someCakes() {
		for n := 1; n <= 10; n++ {
			if got, want := impl.BestShares(values, n), leastOfBest(values, len(values), n); got != want {
				t.Errorf("BestShares(%v, %d) = %d, want %d", values, n, got, want)
			}
		}
	}
}

func TestSharesReject(t *testing.T) {
	for _, values := range someCakes() {
		for _, n := range outside(1, 10) {
			if cuts, ok := impl.Shares(values, n); ok || len(cuts) != 0 {
				t.Errorf("Shares(%v, %d) = %v, %v; want nothing, false", values, n, cuts, ok)
			}
			if got := impl.BestShares(values, n); got != -1 {
				t.Errorf("BestShares(%v, %d) = %d, want -1", values, n, got)
			}
		}
	}
}

func TestCakesAreNotChanged(t *testing.T) {
	mine, yours := []int{5, 1, 3, 4}, []int{1, 1, 9, 1}
	a, b := withSpare(mine, -7), withSpare(yours, -7)
	impl.HalfCut(a)
	impl.Chooser(a, b)
	impl.Shares(a, 2)
	impl.BestShares(a, 2)
	checkUntouched(t, a, mine, -7)
	checkUntouched(t, b, yours, -7)
}
