package tests

import (
	"math/rand/v2"
	"slices"
	"testing"

	"loop.example/g03310/impl"
)

func threeSkills() []impl.Skill {
	return []impl.Skill{{Needs: []int{1}, Days: 3}, {Days: 5}, {Needs: []int{0, 1}, Days: 2}}
}

// someSkills returns many lists of skills, with circles and without them.
func someSkills() [][]impl.Skill {
	var lists [][]impl.Skill
	// All needs that three skills may have.
	for code := range 64 {
		list := make([]impl.Skill, 3)
		for i := range list {
			for k, set := 0, code>>(2*i)&3; k < 3; k++ {
				if k == i {
					continue
				}
				if set&1 == 1 {
					list[i].Needs = append(list[i].Needs, k)
				}
				set >>= 1
			}
			list[i].Days = 1 + 10*i
		}
		lists = append(lists, list)
	}
	r := rand.New(rand.NewPCG(23, 0))
	for n := range 300 {
		list := make([]impl.Skill, n%12+1)
		// Needs that go just to skills with a lesser rank make no circle.
		rank := r.Perm(len(list))
		for i := range list {
			for k := range list {
				if i != k && r.IntN(4) == 0 && (rank[k] < rank[i] || n%3 == 0 && r.IntN(5) == 0) {
					list[i].Needs = append(list[i].Needs, k)
				}
			}
			list[i].Days = 1 + r.IntN(100)
		}
		lists = append(lists, list)
	}
	return append(lists, nil, threeSkills(), chainOf(12), repeated(12, impl.Skill{Days: 100}), []impl.Skill{{Days: 1}})
}

// chainOf returns n skills each of which needs all that come after it.
func chainOf(n int) []impl.Skill {
	list := make([]impl.Skill, n)
	for i := range list {
		list[i].Days = i + 1
		for k := i + 1; k < n; k++ {
			list[i].Needs = append(list[i].Needs, k)
		}
	}
	return list
}

// allNeeded returns all skills that k needs, over others or not, in ascending
// order, by going on until nothing is added.
func allNeeded(list []impl.Skill, k int) []int {
	needed := slices.Clone(list[k].Needs)
	for before := -1; before < len(needed); {
		before = len(needed)
		for i := range list {
			if slices.Contains(needed, i) {
				needed = append(needed, list[i].Needs...)
			}
		}
		slices.Sort(needed)
		needed = slices.Compact(needed)
	}
	return needed
}

func hasCircle(list []impl.Skill) bool {
	for k := range list {
		if slices.Contains(allNeeded(list, k), k) {
			return true
		}
	}
	return false
}

// badSkillLists have too many skills, one that is not valid, or a circle.
func badSkillLists() [][]impl.Skill {
	lists := [][]impl.Skill{
		{{}}, repeated(13, impl.Skill{Days: 1}), chainOf(13), repeated(200, impl.Skill{Days: 1}),
		{{Needs: []int{0}, Days: 1}}, {{Needs: []int{1}, Days: 1}, {Needs: []int{0}, Days: 1}}, {{Needs: []int{1}, Days: 1}, {Needs: []int{2}, Days: 1}, {Needs: []int{0}, Days: 1}}, {{Days: 1}, {Needs: []int{0, 2}, Days: 1}, {Needs: []int{1}, Days: 1}},
		{{Needs: []int{1, 1}, Days: 1}, {Days: 1}}, {{Needs: []int{2, 1}, Days: 1}, {Days: 1}, {Days: 1}}, {{Days: 1}, {Days: 1}, {Needs: []int{0, 1, 0}, Days: 1}}, {{Needs: []int{0, 1}, Days: 1}, {Days: 1}},
	}
	for _, n := range outside(1, 100) {
		lists = append(lists, []impl.Skill{{Days: n}}, []impl.Skill{{Days: n}, {Days: 1}}, []impl.Skill{{Days: 1}, {Needs: []int{0}, Days: 1}, {Days: n}})
	}
	for _, n := range outside(0, 2) {
		lists = append(lists, []impl.Skill{{Needs: []int{n}, Days: 1}, {Days: 1}, {Days: 1}}, []impl.Skill{{Days: 1}, {Days: 1}, {Needs: []int{0, n}, Days: 1}}, []impl.Skill{{Days: 1}, {Days: 1}, {Needs: []int{n, 1}, Days: 1}})
	}
	return lists
}

func checkBadSkills(t *testing.T, list []impl.Skill) {
	t.Helper()
	if impl.SkillsOk(list) || impl.IsComplete(list, nil) || impl.IsComplete(list, []int{0}) {
		t.Errorf("SkillsOk(%v) = %v", list, impl.SkillsOk(list))
	}
	if a, b, c := impl.CanLearn(list, nil), impl.CanLearn(list, []int{0}), impl.LearnOrder(list); a != nil || b != nil || c != nil {
		t.Errorf("CanLearn and LearnOrder of %v = %v, %v and %v; want nil", list, a, b, c)
	}
	for k := range min(len(list), 14) {
		if a, b := impl.DaysFor(list, k), impl.DepthOf(list, k); a != -1 || b != -1 {
			t.Errorf("DaysFor and DepthOf of %v, %d = %d and %d, want -1", list, k, a, b)
		}
	}
}

func TestSkillsOk(t *testing.T) {
	circles := 0
	for _, list := range someSkills() {
		if hasCircle(list) {
			checkBadSkills(t, list)
			circles++
			continue
		}
		if !impl.SkillsOk(list) {
			t.Errorf("SkillsOk(%v) = false", list)
		}
	}
	if circles < 50 || circles > 250 {
		t.Errorf("%d of the lists have circles", circles)
	}
	for _, list := range badSkillLists() {
		checkBadSkills(t, list)
	}
}

func TestCircles(t *testing.T) {
	for n := 2; n <= 12; n++ {
		list := make([]impl.Skill, n)
		for i := range list {
			list[i] = impl.Skill{Needs: []int{(i + 1) % n}, Days: 1}
		}
		checkBadSkills(t, list)
		for i := range list {
			open := slices.Clone(list)
			open[i].Needs = nil
			if !impl.SkillsOk(open) || impl.DepthOf(open, (i+1)%n) != n || impl.DaysFor(open, (i+1)%n) != n {
				t.Errorf("without the needs of %d, %v is not possible", i, open)
			}
		}
		// A circle that other skills do not need makes the list invalid as well.
		checkBadSkills(t, append(slices.Clone(list), impl.Skill{Days: 1}))
	}
}

// badKnown are not strictly ascending, or not indices of three skills.
func badKnown() [][]int {
	lists := [][]int{{0, 0}, {1, 0}, {0, 2, 1}, {0, 1, 1}, {0, 1, 2, 2}, {0, 1, 2, 3}}
	for _, n := range outside(0, 2) {
		lists = append(lists, []int{n}, []int{0, n}, []int{n, 2})
	}
	return lists
}

func TestBadKnown(t *testing.T) {
	free := []impl.Skill{{Days: 1}, {Days: 1}, {Days: 1}}
	for _, known := range badKnown() {
		for _, list := range [][]impl.Skill{threeSkills(), free} {
			if got := impl.CanLearn(list, known); got != nil {
				t.Errorf("CanLearn(%v, %v) = %v, want nil", list, known, got)
			}
			if impl.IsComplete(list, known) {
				t.Errorf("IsComplete(%v, %v) = true", list, known)
			}
		}
	}
	if impl.CanLearn(nil, []int{0}) != nil || impl.IsComplete(nil, []int{0}) || !impl.IsComplete(nil, nil) || len(impl.CanLearn(nil, nil)) != 0 {
		t.Error("without skills, nothing can be known")
	}
}

// setOf returns the indices of a set (a sum of powers of 2).
func setOf(set int, n int) []int {
	var indices []int
	for i := range n {
		if set>>i&1 == 1 {
			indices = append(indices, i)
		}
	}
	return indices
}

func TestCanLearnAndIsComplete(t *testing.T) {
	for _, list := range someSkills() {
		if hasCircle(list) || len(list) > 7 {
			continue
		}
		for set := range 1 << len(list) {
			known := setOf(set, len(list))
			var want []int
			complete := true
			for k, s := range list {
				possible := true
				for _, need := range s.Needs {
					possible = possible && set>>need&1 == 1
				}
				switch {
				case set>>k&1 == 1:
					complete = complete && possible
				case possible:
					want = append(want, k)
				}
			}
			if got := impl.CanLearn(list, known); !slices.Equal(got, want) {
				t.Errorf("CanLearn(%v, %v) = %v, want %v", list, known, got, want)
			}
			if got := impl.IsComplete(list, known); got != complete {
				t.Errorf("IsComplete(%v, %v) = %v", list, known, got)
			}
		}
	}
}

// What is learned in order is always possible, and always the least one that is.
func TestLearnOrder(t *testing.T) {
	cases := []struct {
		list []impl.Skill
		want []int
	}{
		{nil, nil}, {threeSkills(), []int{1, 0, 2}}, {repeated(4, impl.Skill{Days: 1}), []int{0, 1, 2, 3}}, {chainOf(4), []int{3, 2, 1, 0}}, {[]impl.Skill{{Needs: []int{2}, Days: 1}, {Days: 1}, {Days: 1}}, []int{1, 2, 0}}, {[]impl.Skill{{Needs: []int{1}, Days: 1}, {Days: 1}, {Days: 1}}, []int{1, 0, 2}},
	}
	for _, c := range cases {
		if got := impl.LearnOrder(c.list); !slices.Equal(got, c.want) {
			t.Errorf("LearnOrder(%v) = %v, want %v", c.list, got, c.want)
		}
	}
	for _, list := range someSkills() {
		if hasCircle(list) {
			continue
		}
		order := impl.LearnOrder(list)
		if len(order) != len(list) {
			t.Fatalf("LearnOrder(%v) = %v", list, order)
		}
		for n, k := range order {
			known := slices.Clone(order[:n])
			slices.Sort(known)
			if open := impl.CanLearn(list, known); len(open) == 0 || open[0] != k || !impl.IsComplete(list, known) {
				t.Errorf("LearnOrder(%v) = %v, but after %v come %v", list, order, known, open)
			}
		}
	}
}

// depthByHand goes down all needs.
func depthByHand(list []impl.Skill, k int) int {
	depth := 0
	for _, need := range list[k].Needs {
		depth = max(depth, depthByHand(list, need))
	}
	return depth + 1
}

// Days count every skill once.
func TestDaysAndDepth(t *testing.T) {
	for _, list := range someSkills() {
		for _, k := range append([]int{-1, len(list), len(list) + 1}, farOut...) {
			if a, b := impl.DaysFor(list, k), impl.DepthOf(list, k); a != -1 || b != -1 {
				t.Errorf("DaysFor and DepthOf of %v, %d = %d and %d, want -1", list, k, a, b)
			}
		}
		if hasCircle(list) {
			continue
		}
		for k := range list {
			days := list[k].Days
			for _, i := range allNeeded(list, k) {
				days += list[i].Days
			}
			if a, b := impl.DaysFor(list, k), impl.DepthOf(list, k); a != days || b != depthByHand(list, k) {
				t.Errorf("DaysFor and DepthOf of %v, %d = %d and %d, want %d and %d", list, k, a, b, days, depthByHand(list, k))
			}
		}
	}
	cases := []struct{ k, days, depth int }{{0, 8, 2}, {1, 5, 1}, {2, 10, 3}, {3, -1, -1}, {-1, -1, -1}}
	for _, c := range cases {
		if a, b := impl.DaysFor(threeSkills(), c.k), impl.DepthOf(threeSkills(), c.k); a != c.days || b != c.depth {
			t.Errorf("DaysFor and DepthOf of %d = %d and %d, want %d and %d", c.k, a, b, c.days, c.depth)
		}
	}
	if a, b := impl.DaysFor(chainOf(12), 0), impl.DepthOf(chainOf(12), 0); a != 78 || b != 12 {
		t.Errorf("DaysFor and DepthOf of a chain = %d and %d, want 78 and 12", a, b)
	}
}

func TestIsComplete(t *testing.T) {
	cases := []struct {
		known []int
		want  bool
	}{{nil, true}, {[]int{0}, false}, {[]int{1}, true}, {[]int{2}, false}, {[]int{0, 1}, true}, {[]int{1, 2}, false}, {[]int{0, 2}, false}, {[]int{0, 1, 2}, true}}
	for _, c := range cases {
		if got := impl.IsComplete(threeSkills(), c.known); got != c.want {
			t.Errorf("IsComplete(%v) = %v", c.known, got)
		}
	}
}

func TestSkillsAreNotChanged(t *testing.T) {
	needs, known := []int{0, 1}, []int{0, 1}
	n, k := withSpare(needs, 77), withSpare(known, 77)
	list := []impl.Skill{{Needs: []int{1}, Days: 3}, {Days: 5}, {Needs: n, Days: 2}}
	clear(impl.CanLearn(list, k))
	clear(impl.LearnOrder(list))
	impl.DaysFor(list, 2)
	impl.DepthOf(list, 2)
	impl.IsComplete(list, k)
	checkUntouched(t, n, needs, 77)
	checkUntouched(t, k, known, 77)
	if list[0].Needs[0] != 1 || list[0].Days != 3 || list[1].Days != 5 || list[2].Days != 2 {
		t.Errorf("the skills have become %v", list)
	}
}
