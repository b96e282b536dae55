package tests

import (
	"math/bits"
	"math/rand/v2"
	"slices"
	"testing"

	"loop.example/g03310/impl"
)

// badPieceLists have too many pieces or one that is not in its range.
func badPieceLists() [][]int {
	lists := [][]int{repeated(41, 100), repeated(1000, 100)}
	for _, n := range outside(1, 5000) {
		lists = append(lists, []int{n}, []int{n, 100}, []int{100, 200, n})
	}
	return lists
}

func TestPiecesOk(t *testing.T) {
	for _, pieces := range [][]int{nil, {1}, {5000}, {95, 100, 111}, repeated(40, 5000), repeated(40, 1)} {
		if !impl.PiecesOk(pieces) {
			t.Errorf("PiecesOk(%v) = false", pieces)
		}
	}
	for _, pieces := range badPieceLists() {
		if impl.PiecesOk(pieces) {
			t.Errorf("PiecesOk(%v) = true", pieces)
		}
		if got := impl.BadPieces(pieces, 10, 0); got != nil {
			t.Errorf("BadPieces(%v, 10, 0) = %v, want nil", pieces, got)
		}
		if got := impl.LeastMoves(pieces); got != -1 {
			t.Errorf("LeastMoves(%v) = %d, want -1", pieces, got)
		}
		if got := impl.BestWant(pieces, 5); got != -1 {
			t.Errorf("BestWant(%v, 5) = %d, want -1", pieces, got)
		}
		if got := impl.SpreadOf(pieces); got != -1 {
			t.Errorf("SpreadOf(%v) = %d, want -1", pieces, got)
		}
	}
}

func TestNoPieces(t *testing.T) {
	for _, none := range [][]int{nil, {}} {
		if !impl.PiecesOk(none) || len(impl.BadPieces(none, 100, 5)) != 0 || impl.LeastMoves(none) != -1 || impl.BestWant(none, 5) != -1 || impl.SpreadOf(none) != 0 {
			t.Errorf("without pieces: %v, %v, %d, %d, %d", impl.PiecesOk(none), impl.BadPieces(none, 100, 5), impl.LeastMoves(none), impl.BestWant(none, 5), impl.SpreadOf(none))
		}
	}
}

func TestBadPieces(t *testing.T) {
	pieces := []int{95, 100, 111, 94, 105, 106}
	cases := []struct {
		want, tolerance int
		bad             []int
	}{
		{100, 5, []int{2, 3, 5}}, {100, 6, []int{2}}, {100, 4, []int{0, 2, 3, 4, 5}}, {100, 0, []int{0, 2, 3, 4, 5}}, {100, 11, nil}, {100, 10, []int{2}},
		{1, 0, []int{0, 1, 2, 3, 4, 5}}, {1, 110, nil}, {1, 109, []int{2}}, {5000, 1000, []int{0, 1, 2, 3, 4, 5}}, {1094, 1000, nil}, {1095, 1000, []int{3}}, {1111, 1000, []int{0, 1, 3, 4, 5}}, {1112, 1000, []int{0, 1, 2, 3, 4, 5}},
	}
	for _, c := range cases {
		if got := impl.BadPieces(pieces, c.want, c.tolerance); !slices.Equal(got, c.bad) {
			t.Errorf("BadPieces(%v, %d, %d) = %v, want %v", pieces, c.want, c.tolerance, got, c.bad)
		}
	}
	for _, n := range outside(1, 5000) {
		if got := impl.BadPieces(pieces, n, 5); got != nil {
			t.Errorf("BadPieces(%v, %d, 5) = %v, want nil", pieces, n, got)
		}
	}
	for _, n := range outside(0, 1000) {
		if got := impl.BadPieces(pieces, 100, n); got != nil {
			t.Errorf("BadPieces(%v, 100, %d) = %v, want nil", pieces, n, got)
		}
		if got := impl.BestWant(pieces, n); got != -1 {
			t.Errorf("BestWant(%v, %d) = %d, want -1", pieces, n, got)
		}
	}
	if got := impl.BadPieces([]int{1, 5000}, 5000, 0); !slices.Equal(got, []int{0}) {
		t.Errorf("BadPieces([1 5000], 5000, 0) = %v, want [0]", got)
	}
}

func TestLeastMoves(t *testing.T) {
	cases := []struct {
		pieces []int
		want   int
	}{
		{[]int{10, 20, 30}, 10}, {[]int{10, 11, 12}, 1}, {[]int{7}, 0}, {[]int{5000}, 0}, {[]int{10, 11}, 0}, {[]int{11, 10}, 0}, {[]int{10, 12}, 1}, {[]int{10, 13}, 1}, {[]int{10, 14}, 2},
		{[]int{30, 10, 20, 20}, 10}, {[]int{10, 10, 12}, 1}, {[]int{10, 12, 12}, 1}, {[]int{10, 11, 11}, 0}, {[]int{1, 5000}, 2499}, {repeated(40, 5000), 0},
		{slices.Concat(repeated(20, 1), repeated(20, 5000)), 49980},
	}
	for _, c := range cases {
		if got := impl.LeastMoves(c.pieces); got != c.want {
			t.Errorf("LeastMoves(%v) = %d, want %d", c.pieces, got, c.want)
		}
	}
}

// movesByTrying tries all ways to say which pieces get a gram more.
func movesByTrying(pieces []int) int {
	sum := 0
	for _, p := range pieces {
		sum += p
	}
	least := -1
	for set := range uint(1) << len(pieces) {
		if bits.OnesCount(set) != sum%len(pieces) {
			continue
		}
		moves := 0
		for i, p := range pieces {
			moves += max(0, p-sum/len(pieces)-int(set>>i&1))
		}
		if least < 0 || moves < least {
			least = moves
		}
	}
	return least
}

func TestLeastMovesByTrying(t *testing.T) {
	r := rand.New(rand.NewPCG(12, 0))
	for n := range 400 {
		pieces := make([]int, n%9+1)
		for i := range pieces {
			pieces[i] = 100 + r.IntN(2+n%13)
		}
		if got, want := impl.LeastMoves(pieces), movesByTrying(pieces); got != want {
			t.Errorf("LeastMoves(%v) = %d, want %d", pieces, got, want)
		}
	}
}

// Equal pieces have the whole dough, and the greater ones come first.
func TestEqualPieces(t *testing.T) {
	for n := 1; n <= 40; n++ {
		for dough := n; dough <= 200000; dough += 1 + dough/7 {
			checkEqual(t, dough, n)
		}
		checkEqual(t, 199999, n)
		checkEqual(t, 200000, n)
		for _, dough := range outside(n, 200000) {
			if got := impl.EqualPieces(dough, n); got != nil {
				t.Errorf("EqualPieces(%d, %d) = %v, want nil", dough, n, got)
			}
		}
	}
	for _, n := range outside(1, 40) {
		for _, dough := range []int{0, 100, 200000} {
			if got := impl.EqualPieces(dough, n); got != nil {
				t.Errorf("EqualPieces(%d, %d) = %v, want nil", dough, n, got)
			}
		}
	}
	if got := impl.EqualPieces(10, 4); !slices.Equal(got, []int{3, 3, 2, 2}) {
		t.Errorf("EqualPieces(10, 4) = %v", got)
	}
}

func checkEqual(t *testing.T, dough int, n int) {
	t.Helper()
	pieces := impl.EqualPieces(dough, n)
	sum := 0
	for i, p := range pieces {
		sum += p
		if i > 0 && p > pieces[i-1] {
			t.Errorf("EqualPieces(%d, %d) = %v", dough, n, pieces)
		}
	}
	if len(pieces) != n || sum != dough || pieces[0]-pieces[n-1] > 1 {
		t.Errorf("EqualPieces(%d, %d) = %v", dough, n, pieces)
	}
}

func TestBestWant(t *testing.T) {
	cases := []struct {
		pieces    []int
		tolerance int
		want      int
	}{
		{[]int{95, 100, 111}, 5, 95}, {[]int{95, 100, 111}, 8, 103}, {[]int{95, 100, 111}, 7, 93}, {[]int{95, 100, 111}, 2, 93}, {[]int{95, 100, 111}, 0, 95}, {[]int{111, 100, 95}, 0, 95},
		{[]int{1}, 0, 1}, {[]int{1}, 1000, 1}, {[]int{5000}, 0, 5000}, {[]int{5000}, 1000, 4000}, {[]int{1001}, 1000, 1}, {[]int{1002}, 1000, 2}, {[]int{1, 5000, 5000}, 0, 5000}, {[]int{1, 5000}, 1000, 1},
		{[]int{4999, 5000}, 0, 4999},
	}
	for _, c := range cases {
		if got := impl.BestWant(c.pieces, c.tolerance); got != c.want {
			t.Errorf("BestWant(%v, %d) = %d, want %d", c.pieces, c.tolerance, got, c.want)
		}
	}
}

func TestBestWantByTrying(t *testing.T) {
	r := rand.New(rand.NewPCG(12, 1))
	for n := range 60 {
		pieces := make([]int, n%8+1)
		for i := range pieces {
			pieces[i] = 1 + r.IntN(5000)/(1+n%30)
		}
		for _, tolerance := range []int{0, 1, 7, 50, 1000} {
			best, fewest := 0, len(pieces)+1
			for want := 1; want <= 5000; want++ {
				bad := 0
				for _, p := range pieces {
					if p < want-tolerance || p > want+tolerance {
						bad++
					}
				}
				if bad < fewest {
					best, fewest = want, bad
				}
			}
			if got := impl.BestWant(pieces, tolerance); got != best || len(impl.BadPieces(pieces, got, tolerance)) != fewest {
				t.Errorf("BestWant(%v, %d) = %d, want %d", pieces, tolerance, got, best)
			}
		}
	}
}

func TestSpreadOf(t *testing.T) {
	cases := []struct {
		pieces []int
		want   int
	}{
		{[]int{95, 100, 111}, 16}, {[]int{111, 100, 95}, 16}, {[]int{100, 111, 95, 96}, 16}, {[]int{7}, 0}, {[]int{7, 7}, 0}, {[]int{1, 5000}, 4999}, {[]int{5000, 1}, 4999},
	}
	for _, c := range cases {
		if got := impl.SpreadOf(c.pieces); got != c.want {
			t.Errorf("SpreadOf(%v) = %d, want %d", c.pieces, got, c.want)
		}
	}
}

func TestPiecesAreNotChanged(t *testing.T) {
	pieces := []int{95, 111, 100}
	given := withSpare(pieces, 77)
	impl.BadPieces(given, 100, 0)
	impl.LeastMoves(given)
	impl.BestWant(given, 5)
	impl.SpreadOf(given)
	checkUntouched(t, given, pieces, 77)
}
