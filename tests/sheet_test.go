package tests

import (
	"math/rand/v2"
	"slices"
	"sync"
	"testing"

	"loop.example/g03310/impl"
)

// sheet has lengths that are cut from strips.
type sheet struct {
	lengths []int
	strip   int
}

// someSheets are valid, with lengths of half a strip, and with up to as many
// lengths as there may be.
func someSheets() []sheet {
	list := []sheet{
		{nil, 1}, {nil, 200}, {[]int{1}, 1}, {[]int{200}, 200}, {[]int{4, 6, 5, 5}, 10}, {[]int{6, 6, 6}, 10}, {[]int{5, 5, 5}, 10}, {repeated(12, 5), 10}, {repeated(12, 6), 10}, {repeated(12, 5), 11}, {repeated(12, 6), 11}, {repeated(12, 200), 200}, {repeated(12, 1), 200}, {repeated(12, 67), 200}, {repeated(12, 66), 200},
		// The longest first do not need the fewest strips here.
		{[]int{4, 4, 5, 5, 5, 7}, 15}, {[]int{6, 5, 5, 5, 4, 4, 4, 3, 2, 2}, 20}, {[]int{44, 24, 24, 22, 21, 17, 8, 8, 6, 6}, 60}, {[]int{3, 3, 2, 2, 2}, 6}, {[]int{51, 51, 27, 27, 26, 23, 23, 21, 12, 12}, 100},
	}
	r := rand.New(rand.NewPCG(32, 0))
	for n := range 250 {
		strip := 1 + r.IntN(1+n*7%200)
		lengths := make([]int, n%13)
		for i := range lengths {
			lengths[i] = 1 + r.IntN(max(1, strip*(1+n%3)/3))
		}
		list = append(list, sheet{lengths, strip})
	}
	return list
}

func badSheets() []sheet {
	list := []sheet{{repeated(13, 1), 10}, {repeated(300, 1), 200}, {[]int{4, 6, 5, 5}, 5}, {[]int{1, 1}, 0}, {[]int{0}, 0}, {[]int{201}, 201}, {[]int{-3}, -3}}
	for _, n := range outside(1, 200) {
		list = append(list, sheet{nil, n}, sheet{[]int{1}, n}, sheet{[]int{n}, n})
	}
	for _, strip := range []int{1, 10, 200} {
		for _, n := range outside(1, strip) {
			list = append(list, sheet{[]int{n}, strip}, sheet{[]int{1, n}, strip}, sheet{[]int{n, 1, 1}, strip})
		}
	}
	return list
}

func inOrder(n int) []int {
	var order []int
	for i := range n {
		order = append(order, i)
	}
	return order
}

func TestLengthsOk(t *testing.T) {
	for _, s := range someSheets() {
		if !impl.LengthsOk(s.lengths, s.strip) {
			t.Errorf("LengthsOk(%v, %d) = false", s.lengths, s.strip)
		}
	}
	for _, s := range badSheets() {
		if impl.LengthsOk(s.lengths, s.strip) {
			t.Errorf("LengthsOk(%v, %d) = true", s.lengths, s.strip)
		}
		a, b, c := impl.StripsUsed(s.lengths, s.strip, inOrder(len(s.lengths))), impl.FewestStrips(s.lengths, s.strip), impl.LeastStrips(s.lengths, s.strip)
		if a != -1 || b != -1 || c != -1 {
			t.Errorf("StripsUsed, FewestStrips and LeastStrips of %v = %d, %d and %d; want -1", s, a, b, c)
		}
		if got := impl.LongFirst(s.lengths, s.strip); len(got) != 0 {
			t.Errorf("LongFirst(%v, %d) = %v, want nothing", s.lengths, s.strip, got)
		}
		for _, strips := range []int{0, 5, 12} {
			if got := impl.WasteOf(s.lengths, s.strip, strips); got != -1 {
				t.Errorf("WasteOf(%v, %d, %d) = %d, want -1", s.lengths, s.strip, strips, got)
			}
		}
	}
}

func TestStripsUsed(t *testing.T) {
	l := []int{4, 6, 5, 5}
	cases := []struct {
		lengths []int
		strip   int
		order   []int
		want    int
	}{
		{l, 10, []int{1, 2, 3, 0}, 2}, {l, 10, []int{0, 2, 1, 3}, 3}, {l, 10, []int{0, 1, 2, 3}, 2}, {l, 10, []int{2, 1, 0, 3}, 3}, {l, 10, []int{2, 0, 3, 1}, 3}, {l, 9, []int{0, 1, 2, 3}, 3}, {nil, 10, nil, 0}, {nil, 10, []int{}, 0}, {[]int{10}, 10, []int{0}, 1},
		// Each one is cut from the first strip, not from the fullest or the last.
		{[]int{6, 7, 3, 4}, 10, []int{0, 1, 2, 3}, 3}, {[]int{6, 7, 4, 3}, 10, []int{0, 1, 2, 3}, 2}, {[]int{6, 7, 1, 3, 3}, 10, []int{0, 1, 2, 3, 4}, 2}, {[]int{9, 9, 1, 1}, 10, []int{0, 1, 2, 3}, 2}, {[]int{8, 9, 2, 1}, 10, []int{0, 1, 2, 3}, 2}, {[]int{8, 9, 1, 2}, 10, []int{0, 1, 2, 3}, 3},
	}
	for _, c := range cases {
		if got := impl.StripsUsed(c.lengths, c.strip, c.order); got != c.want {
			t.Errorf("StripsUsed(%v, %d, %v) = %d, want %d", c.lengths, c.strip, c.order, got, c.want)
		}
	}
	bad := [][]int{nil, {}, {0, 1, 2}, {0, 1, 2, 2}, {0, 1, 2, 4}, {1, 2, 3, 4}, {-1, 0, 1, 2}, {0, 1, 2, 3, 0}, {0, 1, 2, 3, 4}, {0, 0, 0, 0}}
	for _, n := range farOut {
		bad = append(bad, []int{0, 1, 2, n}, []int{n, 1, 2, 3})
	}
	for _, order := range bad {
		if got := impl.StripsUsed(l, 10, order); got != -1 {
			t.Errorf("StripsUsed(%v, 10, %v) = %d, want -1", l, order, got)
		}
	}
	if got := impl.StripsUsed(nil, 10, []int{0}); got != -1 {
		t.Errorf("StripsUsed of no lengths in the order [0] = %d, want -1", got)
	}
}

// firstFit puts each length into the first box with enough room.
func firstFit(s sheet, order []int) int {
	used := make([]int, len(order)+1)
	strips := 0
	for _, i := range order {
		k := 0
		for used[k]+s.lengths[i] > s.strip {
			k++
		}
		used[k] += s.lengths[i]
		strips = max(strips, k+1)
	}
	return strips
}

func TestLongFirst(t *testing.T) {
	cases := []struct {
		sheet
		want []int
	}{
		{sheet{[]int{4, 6, 5, 5}, 10}, []int{1, 2, 3, 0}}, {sheet{nil, 10}, nil}, {sheet{[]int{3}, 10}, []int{0}}, {sheet{[]int{3, 3, 3}, 10}, []int{0, 1, 2}}, {sheet{[]int{1, 2, 3, 10}, 10}, []int{3, 2, 1, 0}}, {sheet{[]int{5, 4, 5, 4, 5}, 10}, []int{0, 2, 4, 1, 3}},
	}
	for _, c := range cases {
		if got := impl.LongFirst(c.lengths, c.strip); !slices.Equal(got, c.want) {
			t.Errorf("LongFirst(%v, %d) = %v, want %v", c.lengths, c.strip, got, c.want)
		}
	}
	for _, s := range someSheets() {
		got := impl.LongFirst(s.lengths, s.strip)
		sorted := slices.Clone(got)
		slices.Sort(sorted)
		if !slices.Equal(sorted, inOrder(len(s.lengths))) {
			t.Errorf("LongFirst(%v, %d) = %v", s.lengths, s.strip, got)
			continue
		}
		for k := 1; k < len(got); k++ {
			a, b := s.lengths[got[k-1]], s.lengths[got[k]]
			if a < b || a == b && got[k-1] > got[k] {
				t.Errorf("LongFirst(%v, %d) = %v", s.lengths, s.strip, got)
			}
		}
	}
}

// fewestByFilling tries, for each length, all strips that were begun and a new
// one, as long as this can be better than best.
func fewestByFilling(s sheet, next int, left []int, best int) int {
	if len(left) >= best {
		return best
	}
	if next == len(s.lengths) {
		return len(left)
	}
	for k := range left {
		if left[k] >= s.lengths[next] {
			left[k] -= s.lengths[next]
			best = fewestByFilling(s, next+1, left, best)
			left[k] += s.lengths[next]
		}
	}
	return fewestByFilling(s, next+1, append(left, s.strip-s.lengths[next]), best)
}

// No way to cut uses fewer strips than there must be.
func TestFewestStrips(t *testing.T) {
	cases := []struct {
		sheet
		want int
	}{
		{sheet{nil, 10}, 0}, {sheet{[]int{10}, 10}, 1}, {sheet{[]int{1}, 10}, 1}, {sheet{[]int{5, 5}, 10}, 1}, {sheet{[]int{5, 6}, 10}, 2}, {sheet{[]int{4, 6, 5, 5}, 10}, 2}, {sheet{[]int{6, 6, 6}, 10}, 3}, {sheet{[]int{4, 4, 5, 5, 5, 7}, 15}, 2}, {sheet{[]int{6, 5, 5, 5, 4, 4, 4, 3, 2, 2}, 20}, 2}, {sheet{[]int{44, 24, 24, 22, 21, 17, 8, 8, 6, 6}, 60}, 3}, {sheet{[]int{3, 3, 2, 2, 2}, 6}, 2}, {sheet{repeated(12, 67), 200}, 6}, {sheet{repeated(12, 66), 200}, 4}, {sheet{repeated(12, 200), 200}, 12}, {sheet{repeated(12, 1), 200}, 1}, {sheet{repeated(12, 4), 9}, 6}, {sheet{[]int{1, 9, 9, 9}, 10}, 3}, {sheet{[]int{9, 1, 9, 1, 9, 1}, 10}, 3}, {sheet{[]int{7, 5, 5, 3}, 10}, 2}, {sheet{[]int{7, 5, 3, 5}, 10}, 2}, {sheet{[]int{2, 10, 10}, 10}, 3},
	}
	for _, c := range cases {
		if got := impl.FewestStrips(c.lengths, c.strip); got != c.want {
			t.Errorf("FewestStrips(%v, %d) = %d, want %d", c.lengths, c.strip, got, c.want)
		}
	}
	r := rand.New(rand.NewPCG(32, 1))
	for _, s := range someSheets() {
		got := impl.FewestStrips(s.lengths, s.strip)
		if want := fewestByFilling(s, 0, nil, len(s.lengths)+1); got != want {
			t.Errorf("FewestStrips(%v, %d) = %d, want %d", s.lengths, s.strip, got, want)
		}
		orders := [][]int{inOrder(len(s.lengths)), impl.LongFirst(s.lengths, s.strip)}
		for range 20 {
			orders = append(orders, r.Perm(len(s.lengths)))
		}
		for _, order := range orders {
			used := impl.StripsUsed(s.lengths, s.strip, order)
			if used != firstFit(s, order) || used < got {
				t.Errorf("StripsUsed(%v, %d, %v) = %d, want %d; FewestStrips is %d", s.lengths, s.strip, order, used, firstFit(s, order), got)
			}
		}
		if least := impl.LeastStrips(s.lengths, s.strip); got < least {
			t.Errorf("FewestStrips(%v, %d) = %d, but there must be %d", s.lengths, s.strip, got, least)
		}
	}
}

// The order of the lengths, and what else is cut at the same time, make no
// difference.
func TestFewestStripsAgain(t *testing.T) {
	lengths := []int{44, 24, 24, 22, 21, 17, 8, 8, 6, 6}
	r := rand.New(rand.NewPCG(32, 2))
	var cutters sync.WaitGroup
	for range 30 {
		mixed := slices.Clone(lengths)
		r.Shuffle(len(mixed), func(i int, k int) { mixed[i], mixed[k] = mixed[k], mixed[i] })
		cutters.Add(1)
		go func() {
			defer cutters.Done()
			if got := impl.FewestStrips(mixed, 60); got != 3 {
				t.Errorf("FewestStrips(%v, 60) = %d, want 3", mixed, got)
			}
		}()
	}
	cutters.Wait()
}

func TestLeastStrips(t *testing.T) {
	cases := []struct {
		sheet
		want int
	}{
		{sheet{nil, 10}, 0}, {sheet{[]int{4, 6, 5, 5}, 10}, 2}, {sheet{[]int{6, 6, 6}, 10}, 3}, {sheet{[]int{1}, 10}, 1}, {sheet{[]int{10}, 10}, 1}, {sheet{[]int{10, 1}, 10}, 2}, {sheet{[]int{7, 4}, 11}, 1}, {sheet{[]int{7, 5}, 11}, 2}, {sheet{repeated(12, 1), 200}, 1}, {sheet{repeated(12, 200), 200}, 12}, {sheet{[]int{3, 3, 3, 3}, 10}, 2}, {sheet{[]int{6, 1, 6, 1}, 10}, 2},
	}
	for _, c := range cases {
		if got := impl.LeastStrips(c.lengths, c.strip); got != c.want {
			t.Errorf("LeastStrips(%v, %d) = %d, want %d", c.lengths, c.strip, got, c.want)
		}
	}
	for _, s := range someSheets() {
		long, whole := 0, 0
		for _, length := range s.lengths {
			if length > s.strip-length {
				long++
			}
		}
		for whole*s.strip < total(s.lengths) {
			whole++
		}
		if got := impl.LeastStrips(s.lengths, s.strip); got != max(long, whole) {
			t.Errorf("LeastStrips(%v, %d) = %d, want %d", s.lengths, s.strip, got, max(long, whole))
		}
	}
}

// Of lengths of half a strip, two fit into one; a bit longer, they do not.
func TestLengthsOfHalfAStrip(t *testing.T) {
	for strip := 1; strip <= 200; strip++ {
		half := strip / 2
		for n := 0; n <= 12; n++ {
			if half > 0 {
				lengths := repeated(n, half)
				want := (n*half + strip - 1) / strip
				fewest := (n + 1) / 2
				if strip == 3 {
					fewest = (n + 2) / 3
				}
				if got := impl.LeastStrips(lengths, strip); got != want {
					t.Errorf("LeastStrips(%v, %d) = %d, want %d", lengths, strip, got, want)
				}
				if got := impl.FewestStrips(lengths, strip); got != fewest {
					t.Errorf("FewestStrips(%v, %d) = %d, want %d", lengths, strip, got, fewest)
				}
			}
			longer := repeated(n, half+1)
			if a, b := impl.LeastStrips(longer, strip), impl.FewestStrips(longer, strip); a != n || b != n {
				t.Errorf("LeastStrips and FewestStrips of %v and %d = %d and %d, want %d", longer, strip, a, b, n)
			}
		}
	}
}

func TestWasteOf(t *testing.T) {
	l := []int{4, 6, 5, 5}
	cases := []struct {
		sheet
		strips, want int
	}{
		{sheet{l, 10}, 3, 10}, {sheet{l, 10}, 2, 0}, {sheet{l, 10}, 1, -1}, {sheet{l, 10}, 0, -1}, {sheet{l, 10}, 12, 100}, {sheet{nil, 10}, 0, 0}, {sheet{nil, 10}, 12, 120}, {sheet{nil, 200}, 12, 2400}, {sheet{[]int{1}, 10}, 0, -1}, {sheet{[]int{1}, 10}, 1, 9}, {sheet{[]int{10, 1}, 10}, 1, -1}, {sheet{repeated(12, 200), 200}, 12, 0}, {sheet{repeated(12, 200), 200}, 11, -1},
	}
	for _, c := range cases {
		if got := impl.WasteOf(c.lengths, c.strip, c.strips); got != c.want {
			t.Errorf("WasteOf(%v, %d, %d) = %d, want %d", c.lengths, c.strip, c.strips, got, c.want)
		}
	}
	for _, s := range someSheets() {
		for _, strips := range outside(0, 12) {
			if got := impl.WasteOf(s.lengths, s.strip, strips); got != -1 {
				t.Errorf("WasteOf(%v, %d, %d) = %d, want -1", s.lengths, s.strip, strips, got)
			}
		}
		if got, want := impl.WasteOf(s.lengths, s.strip, impl.FewestStrips(s.lengths, s.strip)), impl.FewestStrips(s.lengths, s.strip)*s.strip-total(s.lengths); got != want || got < 0 {
			t.Errorf("WasteOf(%v, %d) of the fewest strips = %d, want %d", s.lengths, s.strip, got, want)
		}
	}
}

func TestSheetsAreNotChanged(t *testing.T) {
	lengths, order := []int{4, 6, 5, 5}, []int{1, 2, 3, 0}
	a, b := withSpare(lengths, -7), withSpare(order, -7)
	impl.StripsUsed(a, 10, b)
	impl.LongFirst(a, 10)
	impl.FewestStrips(a, 10)
	impl.LeastStrips(a, 10)
	impl.WasteOf(a, 10, 2)
	checkUntouched(t, a, lengths, -7)
	checkUntouched(t, b, order, -7)
}
