package tests

import (
	"slices"
	"testing"

	"loop.example/g03310/impl"
)

// stepLists are valid, with and without waiting, the longest one included.
func stepLists() [][]impl.Step {
	return [][]impl.Step{
		nil,
		{{Minutes: 20, Wait: 60}, {Minutes: 10, Wait: 30}},
		{{Minutes: 15, Wait: 5}},
		{{Minutes: 1}},
		{{Minutes: 300}},
		{{Minutes: 10, Wait: 10}, {Minutes: 10, Wait: 10}, {Minutes: 10, Wait: 10}},
		{{Minutes: 7}, {Minutes: 8, Wait: 3}, {Minutes: 9}},
		{{Minutes: 5, Wait: 1000}, {Minutes: 5}},
		repeated(12, impl.Step{Minutes: 300, Wait: 1000}),
	}
}

// badStepLists have too many steps or a step that is not in its ranges.
func badStepLists() [][]impl.Step {
	good := impl.Step{Minutes: 20, Wait: 60}
	lists := [][]impl.Step{{{}}, repeated(13, good), repeated(100, good)}
	var bad []impl.Step
	for _, n := range outside(1, 300) {
		bad = append(bad, impl.Step{Minutes: n, Wait: 60})
	}
	for _, n := range outside(0, 1000) {
		bad = append(bad, impl.Step{Minutes: 20, Wait: n})
	}
	for _, s := range bad {
		lists = append(lists, []impl.Step{s}, []impl.Step{s, good}, []impl.Step{good, good, s})
	}
	return lists
}

func TestStepsOk(t *testing.T) {
	for _, list := range stepLists() {
		if !impl.StepsOk(list) {
			t.Errorf("StepsOk(%v) = false", list)
		}
	}
	for _, s := range []impl.Step{{Minutes: 1}, {Minutes: 300}, {Minutes: 1, Wait: 1000}, {Minutes: 300, Wait: 1000}} {
		if !impl.StepsOk([]impl.Step{s}) {
			t.Errorf("StepsOk of the step %v = false", s)
		}
	}
	for _, list := range badStepLists() {
		if impl.StepsOk(list) {
			t.Errorf("StepsOk(%v) = true", list)
		}
	}
}

func TestFunctionsOfBadSteps(t *testing.T) {
	good := []impl.Step{{Minutes: 20, Wait: 60}}
	for _, list := range badStepLists() {
		if got := impl.WholeTime(list); got != -1 {
			t.Errorf("WholeTime(%v) = %d, want -1", list, got)
		}
		if got := impl.StartTimes(list, 300); got != nil {
			t.Errorf("StartTimes(%v, 300) = %v, want nil", list, got)
		}
		for _, other := range [][]impl.Step{nil, good} {
			if a, b := impl.WorkClash(list, other, 300, 300), impl.WorkClash(other, list, 300, 300); a != -1 || b != -1 {
				t.Errorf("WorkClash of %v and %v = %d and %d, want -1", list, other, a, b)
			}
			if a, b := impl.LeastShift(list, other, 300), impl.LeastShift(other, list, 300); a != -1 || b != -1 {
				t.Errorf("LeastShift of %v and %v = %d and %d, want -1", list, other, a, b)
			}
		}
	}
}

func TestWholeTime(t *testing.T) {
	want := []int{0, 120, 20, 1, 300, 60, 27, 1010, 15600}
	for i, list := range stepLists() {
		if got := impl.WholeTime(list); got != want[i] {
			t.Errorf("WholeTime(%v) = %d, want %d", list, got, want[i])
		}
	}
}

func TestStartTimes(t *testing.T) {
	two := []impl.Step{{Minutes: 20, Wait: 60}, {Minutes: 10, Wait: 30}}
	cases := []struct {
		list  []impl.Step
		ready int
		want  []int
	}{
		{two, 300, []int{180, 260}},
		{two, 120, []int{0, 80}},
		{two, 119, []int{-1, 79}},
		{two, 30, []int{-90, -10}},
		{two, 0, []int{-120, -40}},
		{two, 1440, []int{1320, 1400}},
		{[]impl.Step{{Minutes: 1}}, 0, []int{-1}},
		{[]impl.Step{{Minutes: 7}, {Minutes: 8, Wait: 3}, {Minutes: 9}}, 30, []int{3, 10, 21}},
		{nil, 0, nil},
		{nil, 300, nil},
	}
	for _, c := range cases {
		if got := impl.StartTimes(c.list, c.ready); !slices.Equal(got, c.want) {
			t.Errorf("StartTimes(%v, %d) = %v, want %v", c.list, c.ready, got, c.want)
		}
	}
	for _, ready := range outside(0, 1440) {
		if got := impl.StartTimes(two, ready); got != nil {
			t.Errorf("StartTimes(%v, %d) = %v, want nil", two, ready, got)
		}
	}
}

// All steps end when the bread is wanted: each one begins as soon as the one
// before it is over, and the last one is over at ready.
func TestStepsEndWhenWanted(t *testing.T) {
	for _, list := range stepLists() {
		for _, ready := range []int{0, 1, 300, 1439, 1440} {
			starts := impl.StartTimes(list, ready)
			if len(starts) != len(list) {
				t.Fatalf("StartTimes(%v, %d) = %v", list, ready, starts)
			}
			for i, s := range list {
				next := ready
				if i+1 < len(list) {
					next = starts[i+1]
				}
				if starts[i]+s.Minutes+s.Wait != next {
					t.Errorf("StartTimes(%v, %d) = %v: step %d is not over at %d", list, ready, starts, i, next)
				}
			}
			if len(list) > 0 && starts[0] != ready-impl.WholeTime(list) {
				t.Errorf("StartTimes(%v, %d) begin at %d", list, ready, starts[0])
			}
		}
	}
}

// workMinutes returns the minutes in which there is work, counted backward.
func workMinutes(list []impl.Step, ready int) map[int]bool {
	minutes := map[int]bool{}
	for i := len(list) - 1; i >= 0; i-- {
		ready -= list[i].Wait
		for range list[i].Minutes {
			ready--
			minutes[ready] = true
		}
	}
	return minutes
}

func clashByMinutes(a []impl.Step, b []impl.Step, readyA int, readyB int) int {
	clash, other := 0, workMinutes(b, readyB)
	for minute := range workMinutes(a, readyA) {
		if other[minute] {
			clash++
		}
	}
	return clash
}

func TestWorkClash(t *testing.T) {
	a := []impl.Step{{Minutes: 20, Wait: 60}, {Minutes: 10, Wait: 30}}
	b := []impl.Step{{Minutes: 15, Wait: 5}}
	cases := []struct {
		a, b           []impl.Step
		readyA, readyB int
		want           int
	}{
		{a, b, 300, 285, 5}, {b, a, 285, 300, 5}, {a, b, 300, 300, 0}, {a, a, 300, 300, 30}, {b, b, 300, 300, 15},
		{a, b, 300, 280, 10}, {a, b, 300, 275, 10}, {a, b, 300, 290, 0}, {a, b, 300, 289, 1}, {a, b, 300, 265, 0}, {a, b, 300, 266, 1},
		{a, b, 20, 0, 10}, {a, b, 0, 0, 0}, {a, a, 0, 0, 30}, {a, a, 0, 80, 10}, {a, a, 0, 1440, 0},
		{nil, a, 300, 300, 0}, {a, nil, 300, 300, 0}, {nil, nil, 0, 1440, 0},
	}
	for _, c := range cases {
		if got := impl.WorkClash(c.a, c.b, c.readyA, c.readyB); got != c.want {
			t.Errorf("WorkClash(%v, %v, %d, %d) = %d, want %d", c.a, c.b, c.readyA, c.readyB, got, c.want)
		}
	}
	for _, ready := range outside(0, 1440) {
		for _, pair := range [][2][]impl.Step{{a, b}, {nil, b}, {a, nil}, {nil, nil}} {
			if got := impl.WorkClash(pair[0], pair[1], ready, 300); got != -1 {
				t.Errorf("WorkClash(%v, %v, %d, 300) = %d, want -1", pair[0], pair[1], ready, got)
			}
			if got := impl.WorkClash(pair[0], pair[1], 300, ready); got != -1 {
				t.Errorf("WorkClash(%v, %v, 300, %d) = %d, want -1", pair[0], pair[1], ready, got)
			}
		}
	}
}

func TestWorkClashByMinutes(t *testing.T) {
	for _, a := range stepLists() {
		for _, b := range stepLists() {
			for _, readyB := range []int{0, 5, 290, 299, 300, 1440} {
				want := clashByMinutes(a, b, 300, readyB)
				if got := impl.WorkClash(a, b, 300, readyB); got != want {
					t.Errorf("WorkClash(%v, %v, 300, %d) = %d, want %d", a, b, readyB, got, want)
				}
			}
		}
	}
}

func TestLeastShift(t *testing.T) {
	a := []impl.Step{{Minutes: 20, Wait: 60}, {Minutes: 10, Wait: 30}}
	b := []impl.Step{{Minutes: 15, Wait: 5}}
	work := []impl.Step{{Minutes: 300}, {Minutes: 300}, {Minutes: 300}, {Minutes: 300}, {Minutes: 240}}
	cases := []struct {
		a, b  []impl.Step
		ready int
		want  int
	}{
		{a, b, 300, 0}, {b, b, 300, 15}, {b, b, 15, 15}, {b, b, 14, -1}, {b, b, 0, -1}, {a, b, 0, 0},
		{a, a, 300, 20}, {a, a, 20, 20}, {a, a, 19, -1}, {nil, a, 0, 0}, {a, nil, 1440, 0}, {nil, nil, 0, 0},
		{work, work, 1440, 1440}, {work, work, 1439, -1}, {b, work, 1440, 20}, {work, b, 1440, 1435}, {work, b, 1435, 1435}, {work, b, 1434, -1},
	}
	for _, c := range cases {
		if got := impl.LeastShift(c.a, c.b, c.ready); got != c.want {
			t.Errorf("LeastShift(%v, %v, %d) = %d, want %d", c.a, c.b, c.ready, got, c.want)
		}
	}
	for _, ready := range outside(0, 1440) {
		for _, pair := range [][2][]impl.Step{{a, b}, {nil, b}, {a, nil}, {nil, nil}} {
			if got := impl.LeastShift(pair[0], pair[1], ready); got != -1 {
				t.Errorf("LeastShift(%v, %v, %d) = %d, want -1", pair[0], pair[1], ready, got)
			}
		}
	}
}

// Work that does not clash is shifted least.
func TestLeastShiftByTrying(t *testing.T) {
	lists := stepLists()
	lists = lists[:len(lists)-1]
	for _, a := range lists {
		for _, b := range lists {
			for _, ready := range []int{0, 10, 30, 320} {
				want := -1
				for n := ready; n >= 0; n-- {
					if clashByMinutes(a, b, ready, ready-n) == 0 {
						want = n
					}
				}
				if got := impl.LeastShift(a, b, ready); got != want {
					t.Errorf("LeastShift(%v, %v, %d) = %d, want %d", a, b, ready, got, want)
				}
			}
		}
	}
}

func TestStepsAreNotChanged(t *testing.T) {
	list := []impl.Step{{Minutes: 20, Wait: 60}, {Minutes: 10, Wait: 30}}
	mark := impl.Step{Minutes: 7}
	a, b := withSpare(list, mark), withSpare(list, mark)
	impl.StepsOk(a)
	impl.StartTimes(a, 300)
	impl.WorkClash(a, b, 300, 280)
	impl.LeastShift(a, b, 300)
	checkUntouched(t, a, slices.Clone(list), mark)
	checkUntouched(t, b, slices.Clone(list), mark)
}
