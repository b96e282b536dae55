package tests

import (
	"math"
	"math/rand/v2"
	"slices"
	"testing"

	"loop.example/g03310/impl"
)

func threeShifts() []impl.Shift {
	return []impl.Shift{{From: 0, To: 6}, {From: 16, To: 26}, {From: 30, To: 35}}
}

// shiftLists are valid, with shifts over midnight and without rest.
func shiftLists() [][]impl.Shift {
	lists := [][]impl.Shift{
		nil, threeShifts(), {{From: 0, To: 1}}, {{From: 0, To: 12}}, {{From: 167, To: 168}}, {{From: 167, To: 179}}, {{From: 0, To: 5}, {From: 5, To: 9}}, {{From: 5, To: 6}, {From: 7, To: 8}}, {{From: 20, To: 32}, {From: 44, To: 56}},
	}
	var week []impl.Shift
	for day := range 7 {
		week = append(week, impl.Shift{From: 24 * day, To: 24*day + 12}, impl.Shift{From: 24*day + 12, To: 24*day + 24})
	}
	lists = append(lists, week)
	r := rand.New(rand.NewPCG(22, 0))
	for n := range 80 {
		var list []impl.Shift
		for from := r.IntN(12); from < 168 && len(list) < n%15; {
			to := from + 1 + r.IntN(12)
			list = append(list, impl.Shift{From: from, To: to})
			from = to + r.IntN(14)
		}
		lists = append(lists, list)
	}
	return lists
}

// badShifts have a number that is not in its range.
func badShifts() []impl.Shift {
	list := []impl.Shift{{}, {From: 3, To: 3}, {From: 3, To: 2}, {From: 3, To: 16}, {From: 168, To: 169}, {From: -1, To: 1}, {From: 167, To: 180}, {From: math.MaxInt64, To: math.MinInt64}, {From: math.MaxInt64 - 5, To: math.MaxInt64}, {From: math.MaxInt64 - 5, To: math.MinInt64 + 3}}
	for _, n := range outside(0, 167) {
		list = append(list, impl.Shift{From: n, To: n + 1}, impl.Shift{From: n, To: 5})
	}
	for _, n := range outside(21, 32) {
		list = append(list, impl.Shift{From: 20, To: n})
	}
	return list
}

// badShiftLists have too many shifts, one that is not valid, or one that begins
// before the one before has ended.
func badShiftLists() [][]impl.Shift {
	var many []impl.Shift
	for i := range 15 {
		many = append(many, impl.Shift{From: i, To: i + 1})
	}
	lists := [][]impl.Shift{
		many, {{From: 0, To: 6}, {From: 5, To: 9}}, {{From: 16, To: 26}, {From: 0, To: 6}}, {{From: 0, To: 6}, {From: 0, To: 6}}, {{From: 0, To: 6}, {From: 16, To: 26}, {From: 25, To: 30}}, {{From: 0, To: 12}, {From: 2, To: 3}, {From: 12, To: 13}},
	}
	for _, s := range badShifts() {
		lists = append(lists, []impl.Shift{s}, []impl.Shift{s, {From: 100, To: 105}}, []impl.Shift{{From: 0, To: 1}, {From: 2, To: 3}, s})
	}
	return lists
}

func TestShiftsOk(t *testing.T) {
	for _, list := range shiftLists() {
		if !impl.ShiftsOk(list) {
			t.Errorf("ShiftsOk(%v) = false", list)
		}
	}
	for _, list := range badShiftLists() {
		if impl.ShiftsOk(list) || impl.IsAllowed(list, 0, 1000) || impl.IsAllowed(list, -1000, 1000) {
			t.Errorf("ShiftsOk(%v) = %v, IsAllowed = %v", list, impl.ShiftsOk(list), impl.IsAllowed(list, 0, 1000))
		}
		if a, b, c := impl.RestBetween(list), impl.HoursOf(list), impl.NightHours(list); a != -1 || b != -1 || c != -1 {
			t.Errorf("RestBetween, HoursOf and NightHours of %v = %d, %d and %d; want -1", list, a, b, c)
		}
	}
}

// hoursByClock goes through all hours and counts those of the shifts, and those
// by night.
func hoursByClock(list []impl.Shift) (int, int) {
	hours, night := 0, 0
	for hour := range 200 {
		for _, s := range list {
			if s.From <= hour && hour < s.To {
				hours++
				if clock := hour % 24; clock <= 5 || clock == 22 || clock == 23 {
					night++
				}
			}
		}
	}
	return hours, night
}

// Hours by night are some of all hours.
func TestHours(t *testing.T) {
	cases := []struct {
		list         []impl.Shift
		hours, night int
	}{
		{nil, 0, 0}, {threeShifts(), 21, 10}, {[]impl.Shift{{From: 6, To: 18}}, 12, 0}, {[]impl.Shift{{From: 5, To: 6}}, 1, 1}, {[]impl.Shift{{From: 6, To: 7}}, 1, 0}, {[]impl.Shift{{From: 21, To: 22}}, 1, 0}, {[]impl.Shift{{From: 22, To: 23}}, 1, 1},
	}
	for _, c := range cases {
		if hours, night := impl.HoursOf(c.list), impl.NightHours(c.list); hours != c.hours || night != c.night {
			t.Errorf("HoursOf and NightHours of %v = %d and %d, want %d and %d", c.list, hours, night, c.hours, c.night)
		}
	}
	for _, list := range shiftLists() {
		hours, night := hoursByClock(list)
		if a, b := impl.HoursOf(list), impl.NightHours(list); a != hours || b != night || b > a {
			t.Errorf("HoursOf and NightHours of %v = %d and %d, want %d and %d", list, a, b, hours, night)
		}
	}
}

func TestShiftsOverMidnight(t *testing.T) {
	for day := range 7 {
		cases := []struct{ from, to, night int }{{20, 32, 8}, {22, 30, 8}, {21, 31, 8}, {23, 25, 2}, {18, 26, 4}, {23, 24, 1}, {22, 34, 8}, {16, 28, 6}, {21, 33, 8}}
		for _, c := range cases {
			list := []impl.Shift{{From: 24*day + c.from, To: 24*day + c.to}}
			if hours, night := impl.HoursOf(list), impl.NightHours(list); hours != c.to-c.from || night != c.night {
				t.Errorf("HoursOf and NightHours of %v = %d and %d, want %d and %d", list, hours, night, c.to-c.from, c.night)
			}
		}
	}
	// The last one ends in the next week, and the first one begins in this one.
	list := []impl.Shift{{From: 0, To: 8}, {From: 167, To: 179}}
	if a, b, c := impl.RestBetween(list), impl.HoursOf(list), impl.NightHours(list); !impl.ShiftsOk(list) || a != 159 || b != 20 || c != 6+7 {
		t.Errorf("RestBetween, HoursOf and NightHours of %v = %d, %d and %d; want 159, 20 and 13", list, a, b, c)
	}
	late := []impl.Shift{{From: 20, To: 32}, {From: 44, To: 56}}
	if a, b := impl.RestBetween(late), impl.MostShifts(late, 12); a != 12 || !slices.Equal(b, []int{0, 1}) || !slices.Equal(impl.MostShifts(late, 13), []int{0}) {
		t.Errorf("RestBetween and MostShifts of %v = %d and %v", late, a, b)
	}
}

func TestRestBetween(t *testing.T) {
	cases := []struct {
		list []impl.Shift
		want int
	}{
		{nil, 168}, {[]impl.Shift{{From: 5, To: 9}}, 168}, {threeShifts(), 4}, {threeShifts()[:2], 10}, {threeShifts()[1:], 4}, {[]impl.Shift{{From: 0, To: 5}, {From: 5, To: 9}}, 0}, {[]impl.Shift{{From: 0, To: 1}, {From: 167, To: 168}}, 166}, {[]impl.Shift{{From: 0, To: 1}, {From: 3, To: 4}, {From: 5, To: 6}, {From: 20, To: 21}}, 1},
	}
	for _, c := range cases {
		if got := impl.RestBetween(c.list); got != c.want {
			t.Errorf("RestBetween(%v) = %d, want %d", c.list, got, c.want)
		}
	}
	for _, list := range shiftLists() {
		want := 168
		for hours := 168; hours >= 0; hours-- {
			for i := range max(0, len(list)-1) {
				if list[i].To+hours == list[i+1].From {
					want = hours
				}
			}
		}
		if got := impl.RestBetween(list); got != want {
			t.Errorf("RestBetween(%v) = %d, want %d", list, got, want)
		}
	}
}

// anyShiftLists are in any order, with up to 20 shifts that may overlap.
func anyShiftLists() [][]impl.Shift {
	lists := append(shiftLists(), repeated(20, impl.Shift{From: 3, To: 9}), []impl.Shift{{From: 30, To: 35}, {From: 0, To: 6}, {From: 16, To: 26}}, []impl.Shift{{From: 8, To: 10}, {From: 5, To: 10}, {From: 9, To: 10}})
	r := rand.New(rand.NewPCG(22, 1))
	for n := range 150 {
		list := make([]impl.Shift, n%20+1)
		for i := range list {
			from := r.IntN(168)
			if n%3 == 0 {
				from = from % 40
			}
			list[i] = impl.Shift{From: from, To: from + 1 + r.IntN(12)}
		}
		lists = append(lists, list)
	}
	return lists
}

// takenByEnd takes shifts hour by hour, as they end.
func takenByEnd(list []impl.Shift, rest int) []int {
	var taken []int
	free := 0
	for hour := range 200 {
		for i, s := range list {
			if s.To == hour && s.From >= free {
				taken = append(taken, i)
				free = s.To + rest
			}
		}
	}
	return taken
}

// mostByTrying returns how many shifts can be taken after an hour: it tries each
// one that begins late enough as the next.
func mostByTrying(list []impl.Shift, rest int, free int) int {
	most := 0
	for _, s := range list {
		if s.From >= free {
			most = max(most, 1+mostByTrying(list, rest, s.To+rest))
		}
	}
	return most
}

// The chosen shifts leave enough rest, and there are no more of them.
func TestMostShifts(t *testing.T) {
	cases := []struct {
		list []impl.Shift
		rest int
		want []int
	}{
		{nil, 8, nil}, {threeShifts(), 8, []int{0, 1}}, {threeShifts(), 4, []int{0, 1, 2}}, {threeShifts(), 5, []int{0, 1}}, {threeShifts(), 10, []int{0, 1}}, {threeShifts(), 11, []int{0, 2}}, {threeShifts(), 24, []int{0, 2}}, {threeShifts(), 0, []int{0, 1, 2}},
		{[]impl.Shift{{From: 30, To: 35}, {From: 0, To: 6}, {From: 16, To: 26}}, 4, []int{1, 2, 0}}, {[]impl.Shift{{From: 8, To: 10}, {From: 5, To: 10}, {From: 9, To: 10}}, 0, []int{0}}, {[]impl.Shift{{From: 5, To: 10}, {From: 9, To: 10}, {From: 0, To: 9}}, 0, []int{2, 1}},
		{[]impl.Shift{{From: 0, To: 5}, {From: 5, To: 9}}, 0, []int{0, 1}}, {[]impl.Shift{{From: 0, To: 5}, {From: 5, To: 9}}, 1, []int{0}}, {repeated(20, impl.Shift{From: 3, To: 9}), 0, []int{0}}, {[]impl.Shift{{From: 167, To: 179}}, 24, []int{0}}, {[]impl.Shift{{From: 0, To: 1}}, 24, []int{0}},
	}
	for _, c := range cases {
		if got := impl.MostShifts(c.list, c.rest); !slices.Equal(got, c.want) {
			t.Errorf("MostShifts(%v, %d) = %v, want %v", c.list, c.rest, got, c.want)
		}
	}
	for _, list := range anyShiftLists() {
		for _, rest := range []int{0, 1, 8, 11, 24} {
			got := impl.MostShifts(list, rest)
			if want := takenByEnd(list, rest); !slices.Equal(got, want) {
				t.Errorf("MostShifts(%v, %d) = %v, want %v", list, rest, got, want)
			}
			for k := 1; k < len(got); k++ {
				if list[got[k]].From-list[got[k-1]].To < rest {
					t.Errorf("MostShifts(%v, %d) = %v leaves too little rest", list, rest, got)
				}
			}
			if rest >= 8 && len(got) != mostByTrying(list, rest, 0) {
				t.Errorf("MostShifts(%v, %d) = %v, want %d shifts", list, rest, got, mostByTrying(list, rest, 0))
			}
		}
	}
}

func TestMostShiftsRejects(t *testing.T) {
	good := impl.Shift{From: 3, To: 9}
	bad := [][]impl.Shift{repeated(21, good), repeated(200, good)}
	for _, s := range badShifts() {
		bad = append(bad, []impl.Shift{s}, []impl.Shift{s, good}, []impl.Shift{good, good, s})
	}
	for _, list := range bad {
		if got := impl.MostShifts(list, 8); got != nil {
			t.Errorf("MostShifts(%v, 8) = %v, want nil", list, got)
		}
	}
	for _, rest := range outside(0, 24) {
		if a, b := impl.MostShifts(threeShifts(), rest), impl.MostShifts([]impl.Shift{good}, rest); a != nil || b != nil {
			t.Errorf("MostShifts with the rest %d = %v and %v, want nil", rest, a, b)
		}
	}
}

func TestIsAllowed(t *testing.T) {
	cases := []struct {
		list        []impl.Shift
		rest, hours int
		want        bool
	}{
		{threeShifts(), 4, 21, true}, {threeShifts(), 5, 21, false}, {threeShifts(), 4, 20, false}, {threeShifts(), 3, 22, true}, {threeShifts(), 0, 168, true}, {threeShifts(), -5, 21, true}, {threeShifts(), 4, -1, false},
		{nil, 168, 0, true}, {nil, 169, 0, false}, {nil, 168, -1, false}, {[]impl.Shift{{From: 5, To: 9}}, 168, 4, true}, {[]impl.Shift{{From: 5, To: 9}}, 169, 4, false}, {[]impl.Shift{{From: 5, To: 9}}, 168, 3, false},
		{threeShifts(), math.MinInt64, math.MaxInt64, true}, {threeShifts(), math.MaxInt64, math.MaxInt64, false}, {threeShifts(), math.MinInt64, math.MinInt64, false},
	}
	for _, c := range cases {
		if got := impl.IsAllowed(c.list, c.rest, c.hours); got != c.want {
			t.Errorf("IsAllowed(%v, %d, %d) = %v", c.list, c.rest, c.hours, got)
		}
	}
}

func TestShiftsAreNotChanged(t *testing.T) {
	list := []impl.Shift{{From: 30, To: 35}, {From: 0, To: 6}, {From: 16, To: 26}}
	mark := impl.Shift{From: 7}
	given := withSpare(list, mark)
	impl.MostShifts(given, 4)
	impl.RestBetween(given)
	checkUntouched(t, given, list, mark)
	sorted := threeShifts()
	other := withSpare(sorted, mark)
	impl.RestBetween(other)
	impl.HoursOf(other)
	impl.NightHours(other)
	impl.MostShifts(other, 4)
	impl.IsAllowed(other, 4, 21)
	checkUntouched(t, other, sorted, mark)
}
