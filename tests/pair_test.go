package tests

import (
	"math/rand/v2"
	"slices"
	"testing"

	"loop.example/g03310/impl"
)

// breadLists are valid, with heats that overlap, touch, are equal or are apart.
func breadLists() [][]impl.Bread {
	lists := [][]impl.Bread{
		nil,
		{{Low: 180, High: 200, Minutes: 30}},
		{{Low: 180, High: 200, Minutes: 30}, {Low: 190, High: 230, Minutes: 40}, {Low: 220, High: 250, Minutes: 20}},
		{{Low: 180, High: 200, Minutes: 30}, {Low: 200, High: 230, Minutes: 40}, {Low: 230, High: 250, Minutes: 20}},
		{{Low: 180, High: 199, Minutes: 30}, {Low: 200, High: 229, Minutes: 40}, {Low: 230, High: 250, Minutes: 20}},
		{{Low: 200, High: 200, Minutes: 1}, {Low: 200, High: 200, Minutes: 200}},
		{{Low: 100, High: 350, Minutes: 5}, {Low: 100, High: 100, Minutes: 6}, {Low: 350, High: 350, Minutes: 7}},
		{{Low: 100, High: 150, Minutes: 9}, {Low: 140, High: 200, Minutes: 8}, {Low: 160, High: 200, Minutes: 7}, {Low: 180, High: 200, Minutes: 6}},
		{{Low: 300, High: 310, Minutes: 9}, {Low: 200, High: 210, Minutes: 8}, {Low: 100, High: 110, Minutes: 7}},
		repeated(10, impl.Bread{Low: 100, High: 350, Minutes: 200}),
	}
	r := rand.New(rand.NewPCG(10, 0))
	for n := range 200 {
		list := make([]impl.Bread, n%10+1)
		for i := range list {
			low := 100 + r.IntN(60)
			list[i] = impl.Bread{Low: low, High: low + r.IntN(20), Minutes: 1 + r.IntN(200)}
		}
		lists = append(lists, list)
	}
	return lists
}

// badBreads have a number that is not in its range.
func badBreads() []impl.Bread {
	list := []impl.Bread{
		{}, {Low: 201, High: 200, Minutes: 30}, {Low: 351, High: 351, Minutes: 30}, {Low: 99, High: 99, Minutes: 30}, {Low: 200, High: 100, Minutes: 30},
	}
	for _, n := range outside(100, 200) {
		list = append(list, impl.Bread{Low: n, High: 200, Minutes: 30})
	}
	for _, n := range outside(180, 350) {
		list = append(list, impl.Bread{Low: 180, High: n, Minutes: 30})
	}
	for _, n := range outside(1, 200) {
		list = append(list, impl.Bread{Low: 180, High: 200, Minutes: n})
	}
	return list
}

// badBreadLists have too many breads or one that is not valid.
func badBreadLists() [][]impl.Bread {
	good := impl.Bread{Low: 180, High: 200, Minutes: 30}
	lists := [][]impl.Bread{repeated(11, good), repeated(100, good)}
	for _, b := range badBreads() {
		lists = append(lists, []impl.Bread{b}, []impl.Bread{b, good}, []impl.Bread{good, good, b})
	}
	return lists
}

func TestBreadOk(t *testing.T) {
	good := []impl.Bread{
		{Low: 180, High: 200, Minutes: 30}, {Low: 100, High: 100, Minutes: 1}, {Low: 350, High: 350, Minutes: 200}, {Low: 100, High: 350, Minutes: 1}, {Low: 200, High: 200, Minutes: 200},
	}
	for _, b := range good {
		if !impl.BreadOk(b) {
			t.Errorf("BreadOk(%v) = false", b)
		}
	}
	for _, b := range badBreads() {
		if impl.BreadOk(b) {
			t.Errorf("BreadOk(%v) = true", b)
		}
		if impl.CanShare(b, good[0]) || impl.CanShare(good[0], b) || impl.CanShare(b, b) {
			t.Errorf("%v can share", b)
		}
	}
}

func TestFunctionsOfBadBreads(t *testing.T) {
	for _, list := range badBreadLists() {
		if low, high, ok := impl.CommonHeat(list); low != 0 || high != 0 || ok {
			t.Errorf("CommonHeat(%v) = %d, %d, %v", list, low, high, ok)
		}
		if got := impl.FewestHeats(list); got != nil {
			t.Errorf("FewestHeats(%v) = %v, want nil", list, got)
		}
		if got := impl.ApartBreads(list); got != nil {
			t.Errorf("ApartBreads(%v) = %v, want nil", list, got)
		}
		if got := impl.LongestShared(list); got != -1 {
			t.Errorf("LongestShared(%v) = %d, want -1", list, got)
		}
	}
}

func bakesAt(b impl.Bread, heat int) bool {
	return b.Low <= heat && heat <= b.High
}

// commonByTrying returns the first and the last heat at which all bake.
func commonByTrying(list []impl.Bread) (int, int, bool) {
	low, high := 0, 0
	for heat := 350; heat >= 100; heat-- {
		if !slices.ContainsFunc(list, func(b impl.Bread) bool { return !bakesAt(b, heat) }) {
			low, high = heat, max(high, heat)
		}
	}
	return low, high, low > 0
}

func TestCommonHeat(t *testing.T) {
	if low, high, ok := impl.CommonHeat(nil); low != 0 || high != 0 || ok {
		t.Errorf("CommonHeat(nil) = %d, %d, %v", low, high, ok)
	}
	for _, list := range breadLists() {
		for n := 1; n <= len(list); n++ {
			low, high, ok := impl.CommonHeat(list[:n])
			if l, h, o := commonByTrying(list[:n]); low != l || high != h || ok != o {
				t.Errorf("CommonHeat(%v) = %d, %d, %v; want %d, %d, %v", list[:n], low, high, ok, l, h, o)
			}
		}
	}
}

// Heats that touch are one common heat, and one degree more is none.
func TestHeatsThatTouch(t *testing.T) {
	a := impl.Bread{Low: 180, High: 200, Minutes: 30}
	for _, b := range []impl.Bread{{Low: 200, High: 230, Minutes: 40}, {Low: 200, High: 200, Minutes: 1}} {
		for _, list := range [][]impl.Bread{{a, b}, {b, a}} {
			if low, high, ok := impl.CommonHeat(list); low != 200 || high != 200 || !ok || !impl.CanShare(list[0], list[1]) {
				t.Errorf("CommonHeat(%v) = %d, %d, %v", list, low, high, ok)
			}
			if got := impl.FewestHeats(list); !slices.Equal(got, []int{200}) {
				t.Errorf("FewestHeats(%v) = %v, want [200]", list, got)
			}
			if got := impl.LongestShared(list); got != min(30, b.Minutes) {
				t.Errorf("LongestShared(%v) = %d", list, got)
			}
		}
	}
	b := impl.Bread{Low: 201, High: 230, Minutes: 40}
	for _, list := range [][]impl.Bread{{a, b}, {b, a}} {
		if low, high, ok := impl.CommonHeat(list); low != 0 || high != 0 || ok || impl.CanShare(list[0], list[1]) {
			t.Errorf("CommonHeat(%v) = %d, %d, %v", list, low, high, ok)
		}
		if got := impl.FewestHeats(list); !slices.Equal(got, []int{200, 230}) {
			t.Errorf("FewestHeats(%v) = %v, want [200 230]", list, got)
		}
		if got := impl.LongestShared(list); got != 0 {
			t.Errorf("LongestShared(%v) = %d, want 0", list, got)
		}
	}
	if low, high, ok := impl.CommonHeat([]impl.Bread{a}); low != 180 || high != 200 || !ok {
		t.Errorf("CommonHeat of one bread = %d, %d, %v", low, high, ok)
	}
}

func TestApartBreads(t *testing.T) {
	cases := []struct {
		list        []impl.Bread
		apart, heat []int
	}{
		{nil, nil, nil},
		{[]impl.Bread{{Low: 180, High: 200, Minutes: 30}}, []int{0}, []int{200}},
		{[]impl.Bread{{Low: 180, High: 200, Minutes: 30}, {Low: 190, High: 230, Minutes: 40}, {Low: 220, High: 250, Minutes: 20}}, []int{0, 2}, []int{200, 250}},
		{[]impl.Bread{{Low: 300, High: 310, Minutes: 9}, {Low: 200, High: 210, Minutes: 8}, {Low: 100, High: 110, Minutes: 7}}, []int{2, 1, 0}, []int{110, 210, 310}},
		{[]impl.Bread{{Low: 150, High: 200, Minutes: 9}, {Low: 100, High: 200, Minutes: 8}}, []int{0}, []int{200}},
		{[]impl.Bread{{Low: 100, High: 200, Minutes: 9}, {Low: 150, High: 200, Minutes: 8}, {Low: 200, High: 200, Minutes: 8}}, []int{0}, []int{200}},
		{[]impl.Bread{{Low: 180, High: 200, Minutes: 6}, {Low: 160, High: 200, Minutes: 7}, {Low: 140, High: 200, Minutes: 8}, {Low: 100, High: 150, Minutes: 9}}, []int{3, 0}, []int{150, 200}},
		{[]impl.Bread{{Low: 140, High: 200, Minutes: 8}, {Low: 160, High: 200, Minutes: 7}, {Low: 180, High: 200, Minutes: 6}, {Low: 100, High: 150, Minutes: 9}}, []int{3, 1}, []int{150, 200}},
		{[]impl.Bread{{Low: 100, High: 100, Minutes: 9}, {Low: 100, High: 101, Minutes: 9}, {Low: 101, High: 101, Minutes: 9}, {Low: 101, High: 102, Minutes: 9}}, []int{0, 2}, []int{100, 101}},
	}
	for _, c := range cases {
		if got := impl.ApartBreads(c.list); !slices.Equal(got, c.apart) {
			t.Errorf("ApartBreads(%v) = %v, want %v", c.list, got, c.apart)
		}
		if got := impl.FewestHeats(c.list); !slices.Equal(got, c.heat) {
			t.Errorf("FewestHeats(%v) = %v, want %v", c.list, got, c.heat)
		}
	}
}

// fewestByTrying tries all sets of Highs, which are enough: a heat can be raised
// to the least High of the breads that bake at it.
func fewestByTrying(list []impl.Bread) int {
	fewest := len(list)
	for set := range 1 << len(list) {
		var heats []int
		for i, b := range list {
			if set&(1<<i) != 0 {
				heats = append(heats, b.High)
			}
		}
		if len(heats) < fewest && allBake(list, heats) {
			fewest = len(heats)
		}
	}
	return fewest
}

func allBake(list []impl.Bread, heats []int) bool {
	for _, b := range list {
		if !slices.ContainsFunc(heats, func(heat int) bool { return bakesAt(b, heat) }) {
			return false
		}
	}
	return true
}

// As few heats as there are breads of which no two can share.
func TestFewestHeatsAreFewest(t *testing.T) {
	for _, list := range breadLists() {
		heats, apart := impl.FewestHeats(list), impl.ApartBreads(list)
		if len(heats) != fewestByTrying(list) || len(apart) != len(heats) || !allBake(list, heats) {
			t.Fatalf("FewestHeats(%v) = %v and ApartBreads = %v, want %d", list, heats, apart, fewestByTrying(list))
		}
		for k, i := range apart {
			if list[i].High != heats[k] || k > 0 && heats[k-1] >= heats[k] {
				t.Errorf("FewestHeats(%v) = %v and ApartBreads = %v", list, heats, apart)
			}
			for _, j := range apart[:k] {
				if impl.CanShare(list[i], list[j]) {
					t.Errorf("ApartBreads(%v) = %v: %d and %d can share", list, apart, i, j)
				}
			}
			if first := slices.IndexFunc(list, func(b impl.Bread) bool {
				return b.High == heats[k] && (k == 0 || !bakesAt(b, heats[k-1]))
			}); first != i {
				t.Errorf("ApartBreads(%v) = %v: %d comes before %d", list, apart, first, i)
			}
		}
	}
}

func TestLongestShared(t *testing.T) {
	cases := []struct {
		list []impl.Bread
		want int
	}{
		{nil, 0},
		{[]impl.Bread{{Low: 180, High: 200, Minutes: 200}}, 0},
		{[]impl.Bread{{Low: 180, High: 200, Minutes: 30}, {Low: 190, High: 230, Minutes: 40}, {Low: 220, High: 250, Minutes: 20}}, 30},
		{[]impl.Bread{{Low: 100, High: 100, Minutes: 30}, {Low: 100, High: 230, Minutes: 10}, {Low: 220, High: 350, Minutes: 9}}, 10},
		{[]impl.Bread{{Low: 350, High: 350, Minutes: 30}, {Low: 100, High: 350, Minutes: 200}, {Low: 100, High: 349, Minutes: 29}}, 30},
		{[]impl.Bread{{Low: 200, High: 200, Minutes: 200}, {Low: 200, High: 200, Minutes: 200}, {Low: 200, High: 200, Minutes: 199}}, 399},
		{repeated(10, impl.Bread{Low: 100, High: 350, Minutes: 200}), 1800},
	}
	for _, c := range cases {
		if got := impl.LongestShared(c.list); got != c.want {
			t.Errorf("LongestShared(%v) = %d, want %d", c.list, got, c.want)
		}
	}
}

func TestLongestSharedByTrying(t *testing.T) {
	for _, list := range breadLists() {
		want := 0
		for heat := 100; heat <= 350; heat++ {
			minutes := []int{0}
			for _, b := range list {
				if bakesAt(b, heat) {
					minutes = append(minutes, b.Minutes)
				}
			}
			slices.Sort(minutes)
			sum := 0
			for _, m := range minutes[:len(minutes)-1] {
				sum += m
			}
			want = max(want, sum)
		}
		if got := impl.LongestShared(list); got != want {
			t.Errorf("LongestShared(%v) = %d, want %d", list, got, want)
		}
	}
}

func TestBreadsAreNotChanged(t *testing.T) {
	list := []impl.Bread{{Low: 300, High: 310, Minutes: 9}, {Low: 200, High: 210, Minutes: 8}, {Low: 100, High: 110, Minutes: 7}}
	mark := impl.Bread{Low: 7}
	given := withSpare(list, mark)
	impl.CommonHeat(given)
	impl.FewestHeats(given)
	impl.ApartBreads(given)
	impl.LongestShared(given)
	checkUntouched(t, given, list, mark)
}
