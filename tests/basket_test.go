package tests

import (
	"math/rand/v2"
	"slices"
	"testing"

	"loop.example/g03310/impl"
)

// thingsOf returns the things of a set (a sum of powers of 2).
func thingsOf(set int) []int {
	var things []int
	for thing := 1; thing <= 9; thing++ {
		if set>>(thing-1)&1 == 1 {
			things = append(things, thing)
		}
	}
	return things
}

// basketsOf returns a basket for each set.
func basketsOf(sets ...int) []impl.Basket {
	var list []impl.Basket
	for _, set := range sets {
		list = append(list, impl.Basket{Things: thingsOf(set)})
	}
	return list
}

// setLists have the sets of valid baskets.
func setLists() [][]int {
	lists := [][]int{nil, {0}, {0, 0, 0}, {3, 7, 9, 0}, {511}, repeated(30, 511), repeated(30, 0), {1, 2, 4, 8}, {3, 5, 6}, {3, 3, 12, 12, 48}, {256, 257, 258}}
	r := rand.New(rand.NewPCG(20, 0))
	for n := range 60 {
		sets := make([]int, n%30+1)
		for i := range sets {
			sets[i] = r.IntN(512) & r.IntN(512)
			if n%2 == 0 {
				sets[i] |= r.IntN(512)
			}
		}
		lists = append(lists, sets)
	}
	return lists
}

// countSets counts the sets that contain a set.
func countSets(sets []int, with int) int {
	count := 0
	for _, set := range sets {
		if set|with == set {
			count++
		}
	}
	return count
}

// badThings are not strictly ascending or not in their range.
func badThings() [][]int {
	lists := [][]int{{1, 1}, {2, 1}, {1, 3, 2}, {1, 2, 2}, {9, 8}, {1, 2, 3, 4, 5, 6, 7, 8, 9, 9}, {1, 2, 3, 4, 5, 6, 7, 8, 9, 10}, {0, 1, 2}}
	for _, n := range outside(1, 9) {
		lists = append(lists, []int{n}, []int{1, n}, []int{n, 9})
	}
	return lists
}

// badBasketLists have too many baskets or one that is not valid.
func badBasketLists() [][]impl.Basket {
	lists := [][]impl.Basket{basketsOf(repeated(31, 3)...), basketsOf(repeated(31, 0)...), basketsOf(repeated(300, 3)...)}
	for _, things := range badThings() {
		lists = append(lists, []impl.Basket{{Things: things}}, []impl.Basket{{Things: things}, {Things: []int{1, 2}}}, []impl.Basket{{Things: []int{1, 2}}, {}, {Things: things}})
	}
	return lists
}

func TestBasketsOk(t *testing.T) {
	for _, sets := range setLists() {
		if !impl.BasketsOk(basketsOf(sets...)) {
			t.Errorf("BasketsOk(%v) = false", basketsOf(sets...))
		}
	}
	for _, list := range badBasketLists() {
		if impl.BasketsOk(list) {
			t.Errorf("BasketsOk(%v) = true", list)
		}
		if a, b := impl.CountWith(list, nil), impl.CountWith(list, []int{1}); a != -1 || b != -1 {
			t.Errorf("CountWith(%v) = %d and %d, want -1", list, a, b)
		}
		if a, b := impl.CommonPairs(list, 1), impl.LargestCommon(list, 1); a != nil || b != nil {
			t.Errorf("CommonPairs and LargestCommon of %v = %v and %v, want nil", list, a, b)
		}
		if impl.FollowsFrom(list, 1, 2, 0) || impl.NextThing(list, nil) != -1 || impl.NextThing(list, []int{1}) != -1 {
			t.Errorf("FollowsFrom or NextThing accepts %v", list)
		}
	}
}

// What is bought with more things is bought less often.
func TestCountWith(t *testing.T) {
	for _, sets := range setLists() {
		list := basketsOf(sets...)
		for with := range 512 {
			got := impl.CountWith(list, thingsOf(with))
			if want := countSets(sets, with); got != want {
				t.Errorf("CountWith(%v, %v) = %d, want %d", list, thingsOf(with), got, want)
			}
			if more := with | 1<<(got%9); impl.CountWith(list, thingsOf(more)) > got {
				t.Errorf("CountWith(%v) is greater with %v than with %v", list, thingsOf(more), thingsOf(with))
			}
		}
	}
	for _, things := range badThings() {
		for _, list := range [][]impl.Basket{nil, basketsOf(3, 7, 0)} {
			if got := impl.CountWith(list, things); got != -1 {
				t.Errorf("CountWith(%v, %v) = %d, want -1", list, things, got)
			}
			if got := impl.NextThing(list, things); got != -1 {
				t.Errorf("NextThing(%v, %v) = %d, want -1", list, things, got)
			}
		}
	}
}

func TestEmptyBaskets(t *testing.T) {
	for _, list := range [][]impl.Basket{nil, {}, {{}}, repeated(30, impl.Basket{}), {{Things: []int{}}, {Things: nil}}} {
		if a, b := impl.CountWith(list, nil), impl.CountWith(list, []int{1}); !impl.BasketsOk(list) || a != len(list) || b != 0 {
			t.Errorf("CountWith(%v) = %d and %d, want %d and 0", list, a, b, len(list))
		}
		if a, b := impl.CommonPairs(list, 1), impl.LargestCommon(list, 1); len(a) != 0 || b != nil {
			t.Errorf("CommonPairs and LargestCommon of %v = %v and %v", list, a, b)
		}
		if impl.FollowsFrom(list, 1, 2, 0) || impl.FollowsFrom(list, 1, 1, 0) || impl.NextThing(list, nil) != -1 {
			t.Errorf("something follows from nothing in %v", list)
		}
	}
	// An empty basket has no other thing, but it counts as one without things.
	list := []impl.Basket{{}, {}, {Things: []int{4}}}
	if a, b, c := impl.CountWith(list, nil), impl.NextThing(list, nil), impl.NextThing(list, []int{4}); a != 3 || b != 4 || c != -1 {
		t.Errorf("CountWith and NextThing of %v = %d, %d and %d; want 3, 4 and -1", list, a, b, c)
	}
}

func TestLeastOutsideItsRange(t *testing.T) {
	for _, list := range [][]impl.Basket{nil, basketsOf(3, 7, 9, 0), basketsOf(repeated(30, 511)...)} {
		for _, n := range outside(1, 30) {
			if a, b := impl.CommonPairs(list, n), impl.LargestCommon(list, n); a != nil || b != nil {
				t.Errorf("CommonPairs and LargestCommon of %v, %d = %v and %v, want nil", list, n, a, b)
			}
		}
	}
	full := basketsOf(repeated(30, 511)...)
	if a, b := impl.CommonPairs(full, 30), impl.LargestCommon(full, 30); len(a) != 36 || !slices.Equal(b, thingsOf(511)) {
		t.Errorf("30 full baskets have %d pairs and %v", len(a), b)
	}
}

func TestCommonPairs(t *testing.T) {
	for _, sets := range setLists() {
		list := basketsOf(sets...)
		for _, least := range []int{1, 2, 3, 5, 29, 30} {
			var want [][]int
			for a := 1; a <= 9; a++ {
				for b := a + 1; b <= 9; b++ {
					if countSets(sets, 1<<(a-1)|1<<(b-1)) >= least {
						want = append(want, []int{a, b})
					}
				}
			}
			if got := impl.CommonPairs(list, least); !slices.EqualFunc(got, want, slices.Equal[[]int]) {
				t.Errorf("CommonPairs(%v, %d) = %v, want %v", list, least, got, want)
			}
		}
	}
}

// Of the longest lists, the first one in lexicographic order is the answer.
func TestLargestCommon(t *testing.T) {
	cases := []struct {
		sets  []int
		least int
		want  []int
	}{
		{[]int{3, 7, 9, 0}, 1, []int{1, 2, 3}}, {[]int{3, 7, 9, 0}, 2, []int{1, 2}}, {[]int{3, 7, 9, 0}, 3, []int{1}}, {[]int{3, 7, 9, 0}, 4, nil},
		{[]int{12, 3}, 1, []int{1, 2}}, {[]int{6, 5}, 1, []int{1, 3}}, {[]int{257, 6, 258}, 1, []int{1, 9}}, {[]int{1, 14}, 1, []int{2, 3, 4}}, {[]int{256, 1}, 1, []int{1}}, {[]int{256, 256, 1}, 2, []int{9}},
	}
	for _, c := range cases {
		if got := impl.LargestCommon(basketsOf(c.sets...), c.least); !slices.Equal(got, c.want) {
			t.Errorf("LargestCommon(%v, %d) = %v, want %v", basketsOf(c.sets...), c.least, got, c.want)
		}
	}
	for _, sets := range setLists() {
		list := basketsOf(sets...)
		for _, least := range []int{1, 2, 3, 5, 12, 30} {
			var want []int
			for with := range 512 {
				things := thingsOf(with)
				if countSets(sets, with) < least || len(things) < len(want) {
					continue
				}
				if len(things) > len(want) || slices.Compare(things, want) < 0 {
					want = things
				}
			}
			if got := impl.LargestCommon(list, least); !slices.Equal(got, want) {
				t.Errorf("LargestCommon(%v, %d) = %v, want %v", list, least, got, want)
			}
		}
	}
}

func TestFollowsFrom(t *testing.T) {
	list := basketsOf(3, 7, 9, 0)
	cases := []struct {
		a, b, percent int
		want          bool
	}{
		{1, 2, 66, true}, {1, 2, 67, false}, {1, 2, 0, true}, {2, 1, 100, true}, {1, 3, 33, true}, {1, 3, 34, false}, {1, 9, 0, true}, {1, 9, 1, false}, {9, 1, 0, false}, {9, 9, 0, false}, {5, 1, 0, false},
		{1, 1, 100, true}, {3, 1, 100, true}, {3, 2, 100, true}, {3, 4, 0, true}, {3, 4, 1, false}, {4, 1, 100, true}, {4, 2, 0, true},
	}
	for _, c := range cases {
		if got := impl.FollowsFrom(list, c.a, c.b, c.percent); got != c.want {
			t.Errorf("FollowsFrom(%v, %d, %d, %d) = %v", list, c.a, c.b, c.percent, got)
		}
	}
	for _, n := range outside(1, 9) {
		if impl.FollowsFrom(list, n, 1, 0) || impl.FollowsFrom(list, 1, n, 0) || impl.FollowsFrom(list, n, n, 0) {
			t.Errorf("FollowsFrom of the thing %d is true", n)
		}
	}
	for _, n := range outside(0, 100) {
		if impl.FollowsFrom(list, 1, 1, n) || impl.FollowsFrom(list, 2, 1, n) {
			t.Errorf("FollowsFrom with %d percent is true", n)
		}
	}
}

func TestFollowsFromByCounting(t *testing.T) {
	for _, sets := range setLists() {
		list := basketsOf(sets...)
		for a := 1; a <= 9; a++ {
			for b := 1; b <= 9; b++ {
				with := countSets(sets, 1<<(a-1))
				both := countSets(sets, 1<<(a-1)|1<<(b-1))
				for _, percent := range []int{0, 1, 33, 50, 66, 99, 100} {
					if got, want := impl.FollowsFrom(list, a, b, percent), with > 0 && 100*both >= percent*with; got != want {
						t.Errorf("FollowsFrom(%v, %d, %d, %d) = %v", list, a, b, percent, got)
					}
				}
			}
		}
	}
}

func TestNextThing(t *testing.T) {
	cases := []struct {
		sets, things []int
		want         int
	}{
		{[]int{3, 7, 9, 0}, []int{1}, 2}, {[]int{3, 7, 9, 0}, []int{9}, -1}, {[]int{3, 7, 9, 0}, nil, 1}, {[]int{3, 7, 9, 0}, []int{1, 2}, 3}, {[]int{3, 7, 9, 0}, []int{1, 2, 3}, -1}, {[]int{3, 7, 9, 0}, []int{4}, 1}, {[]int{3, 7, 9, 0}, []int{2, 4}, -1},
		{[]int{5, 3}, []int{1}, 2}, {[]int{5, 3, 5}, []int{1}, 3}, {[]int{257, 1}, []int{1}, 9}, {[]int{256, 256, 1}, nil, 9}, {[]int{511}, thingsOf(511), -1}, {[]int{511}, thingsOf(510), 1}, {[]int{511}, thingsOf(255), 9},
	}
	for _, c := range cases {
		if got := impl.NextThing(basketsOf(c.sets...), c.things); got != c.want {
			t.Errorf("NextThing(%v, %v) = %d, want %d", basketsOf(c.sets...), c.things, got, c.want)
		}
	}
	for _, sets := range setLists() {
		list := basketsOf(sets...)
		for with := range 512 {
			want, most := -1, 0
			for thing := 9; thing >= 1; thing-- {
				bit := 1 << (thing - 1)
				if count := countSets(sets, with|bit); with&bit == 0 && count > 0 && count >= most {
					want, most = thing, count
				}
			}
			if got := impl.NextThing(list, thingsOf(with)); got != want {
				t.Errorf("NextThing(%v, %v) = %d, want %d", list, thingsOf(with), got, want)
			}
		}
	}
}

func TestBasketsAreNotChanged(t *testing.T) {
	first, second, things := []int{1, 2}, []int{1, 2, 3}, []int{1, 2}
	a, b, c := withSpare(first, 77), withSpare(second, 77), withSpare(things, 77)
	list := []impl.Basket{{Things: a}, {Things: b}}
	impl.CountWith(list, c)
	for _, pair := range impl.CommonPairs(list, 1) {
		pair[0] = 9
		_ = append(pair, 9)
	}
	clear(impl.LargestCommon(list, 2))
	impl.FollowsFrom(list, 1, 2, 50)
	impl.NextThing(list, c)
	checkUntouched(t, a, first, 77)
	checkUntouched(t, b, second, 77)
	checkUntouched(t, c, things, 77)
	pairs := impl.CommonPairs(list, 1)
	pairs[0][1] = 9
	_ = append(pairs[0], 9)
	if !slices.Equal(pairs[1], []int{1, 3}) || !slices.Equal(pairs[2], []int{2, 3}) {
		t.Errorf("the pairs share memory: %v", pairs)
	}
}
