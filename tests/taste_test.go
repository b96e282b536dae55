package tests

import (
	"math/rand/v2"
	"slices"
	"testing"

	"loop.example/g03310/impl"
)

// ballot has votes for n breads.
type ballot struct {
	votes [][]int
	n     int
}

func circleOfThree() [][]int {
	return [][]int{{0, 1, 2}, {1, 2, 0}, {2, 0, 1}}
}

// someBallots are valid, with circles, and with up to as many breads and votes as
// there may be.
func someBallots() []ballot {
	list := []ballot{
		{[][]int{{0, 1, 2}, {1, 0, 2}, {0, 2, 1}}, 3}, {circleOfThree(), 3}, {[][]int{{0}}, 1}, {repeated(15, []int{0}), 1}, {[][]int{{0, 1}}, 2}, {[][]int{{1, 0}}, 2}, {[][]int{{0, 1}, {1, 0}}, 2}, {[][]int{{0, 1, 2, 3, 4, 5}}, 6}, {repeated(15, []int{5, 4, 3, 2, 1, 0}), 6}, {[][]int{{0, 1, 2}, {1, 2, 0}, {2, 0, 1}, {0, 1, 2}}, 3},
		// Of six breads, the last three are in a circle behind the others.
		{[][]int{{0, 1, 2, 3, 4, 5}, {0, 1, 2, 4, 5, 3}, {0, 1, 2, 5, 3, 4}}, 6}, {[][]int{{5, 0, 1, 2, 3, 4}, {4, 5, 0, 1, 2, 3}, {3, 4, 5, 0, 1, 2}}, 6},
	}
	r := rand.New(rand.NewPCG(33, 0))
	for k := range 200 {
		b := ballot{n: k%6 + 1}
		for range k%15 + 1 {
			b.votes = append(b.votes, r.Perm(b.n))
		}
		list = append(list, b)
	}
	return list
}

// badBallots have a number of breads or of votes that is not in its range, or a
// vote that does not have each bread once.
func badBallots() []ballot {
	list := []ballot{
		{nil, 1}, {nil, 3}, {[][]int{}, 2}, {repeated(16, []int{0, 1}), 2}, {repeated(300, []int{0}), 1}, {[][]int{{}}, 0}, {nil, 0}, {[][]int{{0, 1, 2, 3, 4, 5, 6}}, 7}, {[][]int{{0, 0}}, 2}, {[][]int{{0, 1}, {1, 1}}, 2}, {[][]int{{0, 1}, {0}}, 2}, {[][]int{{0, 1}, {0, 1, 2}}, 2}, {[][]int{{0, 1}, {}}, 2}, {[][]int{{0, 1}, nil, {0, 1}}, 2}, {[][]int{{0, 1, 2}}, 2}, {[][]int{{0, 1}}, 3}, {[][]int{{1, 2}}, 2}, {[][]int{{0, 1, 3}}, 3}, {[][]int{{0, 1, 1, 2}}, 3}, {[][]int{{-1, 0, 1}}, 3},
	}
	for _, n := range farOut {
		list = append(list, ballot{[][]int{{0, 1}}, n}, ballot{nil, n}, ballot{[][]int{{0, n}}, 2}, ballot{[][]int{{0, 1}, {n, 0}}, 2})
	}
	return list
}

func TestVotesOk(t *testing.T) {
	for _, b := range someBallots() {
		if !impl.VotesOk(b.votes, b.n) {
			t.Errorf("VotesOk(%v, %d) = false", b.votes, b.n)
		}
	}
	for _, b := range badBallots() {
		if impl.VotesOk(b.votes, b.n) || impl.HasCircle(b.votes, b.n) {
			t.Errorf("VotesOk or HasCircle of %v and %d is true", b.votes, b.n)
		}
		x, y, z := impl.Prefers(b.votes, b.n, 0, 1), impl.BeatsAll(b.votes, b.n), impl.WinnerByPoints(b.votes, b.n)
		if x != -1 || y != -1 || z != -1 {
			t.Errorf("Prefers, BeatsAll and WinnerByPoints of %v and %d = %d, %d and %d; want -1", b.votes, b.n, x, y, z)
		}
		if got := impl.PointsOf(b.votes, b.n); len(got) != 0 {
			t.Errorf("PointsOf(%v, %d) = %v, want nothing", b.votes, b.n, got)
		}
	}
}

// before counts the votes in which a is named and b is not yet.
func before(votes [][]int, a int, b int) int {
	count := 0
	for _, vote := range votes {
		for _, bread := range vote {
			if bread == a {
				count++
			}
			if bread == b || bread == a {
				break
			}
		}
	}
	return count
}

// Votes for both directions are all votes.
func TestPrefers(t *testing.T) {
	v := [][]int{{0, 1, 2}, {1, 0, 2}, {0, 2, 1}}
	for _, c := range [][3]int{{0, 1, 2}, {1, 0, 1}, {0, 2, 3}, {2, 0, 0}, {1, 2, 2}, {2, 1, 1}} {
		if got := impl.Prefers(v, 3, c[0], c[1]); got != c[2] {
			t.Errorf("Prefers(%v, 3, %d, %d) = %d, want %d", v, c[0], c[1], got, c[2])
		}
	}
	for _, b := range someBallots() {
		for x := -2; x <= b.n+1; x++ {
			for y := -2; y <= b.n+1; y++ {
				want := -1
				if x != y && min(x, y) >= 0 && max(x, y) < b.n {
					want = before(b.votes, x, y)
				}
				got := impl.Prefers(b.votes, b.n, x, y)
				if got != want {
					t.Errorf("Prefers(%v, %d, %d, %d) = %d, want %d", b.votes, b.n, x, y, got, want)
				}
				if want >= 0 && got+impl.Prefers(b.votes, b.n, y, x) != len(b.votes) {
					t.Errorf("Prefers(%v, %d) of %d and %d are not all votes", b.votes, b.n, x, y)
				}
			}
		}
	}
	for _, n := range farOut {
		for _, pair := range [][2]int{{n, 0}, {0, n}, {n, n}, {n, n + 1}} {
			if got := impl.Prefers(v, 3, pair[0], pair[1]); got != -1 {
				t.Errorf("Prefers(%v, 3, %d, %d) = %d, want -1", v, pair[0], pair[1], got)
			}
		}
	}
}

// Who beats all is beaten by nobody.
func TestBeatsAll(t *testing.T) {
	cases := []struct {
		ballot
		want int
	}{
		{ballot{[][]int{{0, 1, 2}, {1, 0, 2}, {0, 2, 1}}, 3}, 0}, {ballot{circleOfThree(), 3}, -1}, {ballot{[][]int{{0}}, 1}, 0}, {ballot{[][]int{{1, 0}}, 2}, 1}, {ballot{[][]int{{0, 1}, {1, 0}}, 2}, -1}, {ballot{[][]int{{0, 1}, {1, 0}, {1, 0}}, 2}, 1}, {ballot{[][]int{{0, 1}, {1, 0}, {1, 0}, {0, 1}}, 2}, -1}, {ballot{[][]int{{2, 0, 1}, {2, 1, 0}, {0, 1, 2}}, 3}, 2}, {ballot{[][]int{{5, 4, 3, 2, 1, 0}}, 6}, 5}, {ballot{[][]int{{0, 1, 2, 3, 4, 5}, {0, 1, 2, 4, 5, 3}, {0, 1, 2, 5, 3, 4}}, 6}, 0},
		// More than half are for bread 1 against each one, though nobody has it first.
		{ballot{[][]int{{0, 1, 2, 3}, {2, 1, 3, 0}, {3, 1, 0, 2}}, 4}, 1},
		// Against bread 0 there are just half.
		{ballot{[][]int{{1, 0, 2}, {0, 1, 2}}, 3}, -1},
	}
	for _, c := range cases {
		if got := impl.BeatsAll(c.votes, c.n); got != c.want {
			t.Errorf("BeatsAll(%v, %d) = %d, want %d", c.votes, c.n, got, c.want)
		}
	}
	for _, b := range someBallots() {
		want := -1
		for x := range b.n {
			all := true
			for y := range b.n {
				all = all && (x == y || before(b.votes, x, y) > before(b.votes, y, x))
			}
			if all {
				want = x
			}
		}
		got := impl.BeatsAll(b.votes, b.n)
		if got != want {
			t.Errorf("BeatsAll(%v, %d) = %d, want %d", b.votes, b.n, got, want)
		}
		for y := range b.n {
			if got >= 0 && y != got && 2*impl.Prefers(b.votes, b.n, y, got) >= len(b.votes) {
				t.Errorf("BeatsAll(%v, %d) = %d, but %d is not beaten", b.votes, b.n, got, y)
			}
		}
	}
}

func TestPointsOf(t *testing.T) {
	cases := []struct {
		ballot
		want   []int
		winner int
	}{
		{ballot{[][]int{{0, 1, 2}, {1, 0, 2}, {0, 2, 1}}, 3}, []int{5, 3, 1}, 0}, {ballot{circleOfThree(), 3}, []int{3, 3, 3}, 0}, {ballot{[][]int{{0}}, 1}, []int{0}, 0}, {ballot{repeated(15, []int{0}), 1}, []int{0}, 0}, {ballot{[][]int{{1, 0}}, 2}, []int{0, 1}, 1}, {ballot{[][]int{{2, 0, 1}}, 3}, []int{1, 0, 2}, 2}, {ballot{[][]int{{3, 1, 0, 2}}, 4}, []int{1, 2, 0, 3}, 3}, {ballot{[][]int{{4, 3, 1, 0, 2}}, 5}, []int{1, 2, 0, 3, 4}, 4}, {ballot{[][]int{{4, 5, 3, 1, 0, 2}}, 6}, []int{1, 2, 0, 3, 5, 4}, 4}, {ballot{repeated(15, []int{5, 4, 3, 2, 1, 0}), 6}, []int{0, 15, 30, 45, 60, 75}, 5}, {ballot{[][]int{{1, 2, 0}, {2, 1, 0}}, 3}, []int{0, 3, 3}, 1},
	}
	for _, c := range cases {
		if got := impl.PointsOf(c.votes, c.n); !slices.Equal(got, c.want) {
			t.Errorf("PointsOf(%v, %d) = %v, want %v", c.votes, c.n, got, c.want)
		}
		if got := impl.WinnerByPoints(c.votes, c.n); got != c.winner {
			t.Errorf("WinnerByPoints(%v, %d) = %d, want %d", c.votes, c.n, got, c.winner)
		}
	}
	for _, b := range someBallots() {
		// A bread is before all others that are behind it.
		want := make([]int, b.n)
		winner := 0
		for x := range b.n {
			for y := range b.n {
				if x != y {
					want[x] += before(b.votes, x, y)
				}
			}
			if want[x] > want[winner] {
				winner = x
			}
		}
		if got := impl.PointsOf(b.votes, b.n); !slices.Equal(got, want) {
			t.Errorf("PointsOf(%v, %d) = %v, want %v", b.votes, b.n, got, want)
		}
		if got := impl.WinnerByPoints(b.votes, b.n); got != winner {
			t.Errorf("WinnerByPoints(%v, %d) = %d, want %d", b.votes, b.n, got, winner)
		}
	}
}

func TestHasCircle(t *testing.T) {
	cases := []struct {
		ballot
		want bool
	}{
		{ballot{circleOfThree(), 3}, true}, {ballot{[][]int{{2, 1, 0}, {1, 0, 2}, {0, 2, 1}}, 3}, true}, {ballot{[][]int{{0, 1, 2}, {1, 0, 2}, {0, 2, 1}}, 3}, false}, {ballot{[][]int{{0, 1, 2}}, 3}, false}, {ballot{[][]int{{0, 1}, {1, 0}}, 2}, false}, {ballot{[][]int{{0}}, 1}, false}, {ballot{[][]int{{0, 1}, {1, 0}, {0, 1}}, 2}, false},
		// With half of the votes, nobody is before another one.
		{ballot{[][]int{{0, 1, 2}, {1, 2, 0}, {2, 0, 1}, {2, 1, 0}}, 3}, false}, {ballot{[][]int{{0, 1, 2}, {1, 2, 0}, {2, 0, 1}, {0, 1, 2}}, 3}, false}, {ballot{append(circleOfThree(), circleOfThree()...), 3}, true}, {ballot{[][]int{{0, 1, 2}, {2, 1, 0}}, 3}, false},
		// The circle may be anywhere among the breads.
		{ballot{[][]int{{0, 1, 2, 3, 4, 5}, {0, 1, 2, 4, 5, 3}, {0, 1, 2, 5, 3, 4}}, 6}, true}, {ballot{[][]int{{5, 0, 1, 2, 3, 4}, {4, 5, 0, 1, 2, 3}, {3, 4, 5, 0, 1, 2}}, 6}, true}, {ballot{[][]int{{1, 3, 0, 2}, {3, 2, 0, 1}, {2, 0, 1, 3}}, 4}, true},
		// Four are in a circle, and so are three of them.
		{ballot{[][]int{{0, 1, 2, 3}, {1, 2, 3, 0}, {2, 3, 0, 1}, {3, 0, 1, 2}, {0, 1, 2, 3}}, 4}, true},
	}
	for _, c := range cases {
		if got := impl.HasCircle(c.votes, c.n); got != c.want {
			t.Errorf("HasCircle(%v, %d) = %v", c.votes, c.n, got)
		}
	}
	for _, b := range someBallots() {
		want := false
		for x := range b.n {
			for y := range b.n {
				for z := range b.n {
					if x != y && y != z && x != z && 2*before(b.votes, x, y) > len(b.votes) && 2*before(b.votes, y, z) > len(b.votes) && 2*before(b.votes, z, x) > len(b.votes) {
						want = true
					}
				}
			}
		}
		if got := impl.HasCircle(b.votes, b.n); got != want {
			t.Errorf("HasCircle(%v, %d) = %v", b.votes, b.n, got)
		}
	}
}

func TestVotesAreNotChanged(t *testing.T) {
	votes := make([][]int, 3)
	for i, vote := range circleOfThree() {
		votes[i] = withSpare(vote, -7)
	}
	impl.Prefers(votes, 3, 0, 1)
	impl.BeatsAll(votes, 3)
	points := impl.PointsOf(votes, 3)
	points[0] = 99
	impl.WinnerByPoints(votes, 3)
	impl.HasCircle(votes, 3)
	for i, vote := range circleOfThree() {
		checkUntouched(t, votes[i], vote, -7)
	}
}
