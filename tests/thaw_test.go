package tests

import (
	"math"
	"math/rand/v2"
	"slices"
	"testing"

	"loop.example/g03310/impl"
)

func threePieces() []impl.Frozen {
	return []impl.Frozen{{Hours: 5, Latest: 2}, {Hours: 8, Latest: 1}, {Hours: 6, Latest: 2}}
}

// frozenLists are valid, with up to as many pieces as there may be, and with
// pieces that must not wait.
func frozenLists() [][]impl.Frozen {
	lists := [][]impl.Frozen{
		threePieces(), threePieces()[1:], {{Hours: 1}}, {{Hours: 48, Latest: 48}}, {{Hours: 48}, {Hours: 1, Latest: 48}}, {{Hours: 1}, {Hours: 48, Latest: 48}}, {{Hours: 5}, {Hours: 5}}, {{Hours: 5}, {Hours: 6}}, {{Hours: 5, Latest: 1}, {Hours: 6}}, repeated(20, impl.Frozen{Hours: 7, Latest: 3}),
	}
	r := rand.New(rand.NewPCG(29, 0))
	for n := range 120 {
		list := make([]impl.Frozen, n%20+1)
		for i := range list {
			list[i] = impl.Frozen{Hours: 1 + r.IntN(1+n%48), Latest: r.IntN(1 + n*n%49)}
		}
		lists = append(lists, list)
	}
	return lists
}

func badFrozen() []impl.Frozen {
	list := []impl.Frozen{{}, {Latest: 5}, {Hours: 49, Latest: 5}, {Hours: 5, Latest: 49}, {Hours: 5, Latest: -1}, {Hours: math.MinInt64, Latest: math.MinInt64}}
	for _, n := range outside(1, 48) {
		list = append(list, impl.Frozen{Hours: n}, impl.Frozen{Hours: n, Latest: 48}, impl.Frozen{Hours: n, Latest: -n})
	}
	for _, n := range outside(0, 48) {
		list = append(list, impl.Frozen{Hours: 1, Latest: n}, impl.Frozen{Hours: 48, Latest: n})
	}
	return list
}

// someHours may be wanted.
var someHours = []int{-48, -47, 0, 1, 30, 500, 999, 1000}

func TestFrozenOk(t *testing.T) {
	for _, list := range frozenLists() {
		for _, f := range list {
			if !impl.FrozenOk(f) {
				t.Errorf("FrozenOk(%v) = false", f)
			}
		}
	}
	good := impl.Frozen{Hours: 5, Latest: 2}
	for _, f := range badFrozen() {
		if impl.FrozenOk(f) {
			t.Errorf("FrozenOk(%v) = true", f)
		}
		if a, b, ok := impl.OutAt(f, 30); a != 0 || b != 0 || ok {
			t.Errorf("OutAt(%v, 30) = %d, %d, %v; want zeros and false", f, a, b, ok)
		}
		for _, now := range []int{-1, 0, 1, 5, 48, 1000} {
			if impl.IsGood(f, 0, now) {
				t.Errorf("IsGood(%v, 0, %d) = true", f, now)
			}
		}
		for _, list := range [][]impl.Frozen{{f}, {f, good}, {good, f}, {good, good, f}} {
			if hour, ok := impl.OneTime(list, 30); hour != 0 || ok {
				t.Errorf("OneTime(%v, 30) = %d, %v; want 0, false", list, hour, ok)
			}
			if hours := impl.FewestTimes(list, 30); len(hours) != 0 {
				t.Errorf("FewestTimes(%v, 30) = %v, want nothing", list, hours)
			}
		}
	}
}

func TestOutAt(t *testing.T) {
	cases := []struct {
		f                       impl.Frozen
		wanted, least, greatest int
	}{
		{impl.Frozen{Hours: 5, Latest: 2}, 30, 23, 25}, {impl.Frozen{Hours: 5}, 30, 25, 25}, {impl.Frozen{Hours: 1}, -48, -49, -49}, {impl.Frozen{Hours: 48, Latest: 48}, -48, -144, -96}, {impl.Frozen{Hours: 48, Latest: 48}, 1000, 904, 952}, {impl.Frozen{Hours: 1, Latest: 1}, 1, -1, 0}, {impl.Frozen{Hours: 3, Latest: 0}, 3, 0, 0},
	}
	for _, c := range cases {
		if a, b, ok := impl.OutAt(c.f, c.wanted); !ok || a != c.least || b != c.greatest {
			t.Errorf("OutAt(%v, %d) = %d, %d, %v; want %d, %d, true", c.f, c.wanted, a, b, ok, c.least, c.greatest)
		}
	}
	for _, f := range threePieces() {
		for _, wanted := range outside(-48, 1000) {
			if a, b, ok := impl.OutAt(f, wanted); a != 0 || b != 0 || ok {
				t.Errorf("OutAt(%v, %d) = %d, %d, %v; want zeros and false", f, wanted, a, b, ok)
			}
		}
	}
}

// Everything that is taken out at its hour is good, and an hour before or after
// it is not.
func TestOutAtIsGood(t *testing.T) {
	for hours := 1; hours <= 48; hours++ {
		for latest := 0; latest <= 48; latest += 1 + latest/9 {
			f := impl.Frozen{Hours: hours, Latest: latest}
			for _, wanted := range someHours {
				least, greatest, _ := impl.OutAt(f, wanted)
				for out := least - 2; out <= greatest+2; out++ {
					want := out >= least && out <= greatest
					if got := impl.IsGood(f, out, wanted); got != want {
						t.Errorf("IsGood(%v, %d, %d) = %v, but OutAt is from %d to %d", f, out, wanted, got, least, greatest)
					}
				}
			}
		}
	}
}

func TestIsGood(t *testing.T) {
	f := impl.Frozen{Hours: 5, Latest: 2}
	cases := []struct {
		out, now int
		want     bool
	}{
		{23, 30, true}, {22, 30, false}, {24, 30, true}, {25, 30, true}, {26, 30, false}, {30, 30, false}, {35, 30, false}, {-1000, -995, true}, {-1000, -993, true}, {-1000, -992, false}, {995, 1000, true}, {993, 1000, true}, {992, 1000, false}, {996, 1000, false}, {-1001, -995, false}, {-1001, -996, false}, {996, 1001, false}, {994, 1001, false}, {1001, 1006, false}, {-1006, -1001, false}, {math.MaxInt64, math.MinInt64 + 4, false}, {math.MinInt64, math.MinInt64 + 5, false}, {math.MaxInt64 - 5, math.MaxInt64, false},
	}
	for _, c := range cases {
		if got := impl.IsGood(f, c.out, c.now); got != c.want {
			t.Errorf("IsGood(%v, %d, %d) = %v", f, c.out, c.now, got)
		}
	}
	for _, n := range outside(-1000, 1000) {
		for _, other := range []int{n - 6, n + 6, -1000, 0, 1000} {
			if impl.IsGood(f, n, other) || impl.IsGood(f, other, n) {
				t.Errorf("IsGood(%v) of %d and %d is true", f, n, other)
			}
		}
	}
}

// Pieces that must not wait are good at one hour, and share one just with those
// that are ready then.
func TestPiecesThatMustNotWait(t *testing.T) {
	f := impl.Frozen{Hours: 7}
	for out := 20; out <= 26; out++ {
		if got := impl.IsGood(f, out, 30); got != (out == 23) {
			t.Errorf("IsGood(%v, %d, 30) = %v", f, out, got)
		}
	}
	cases := []struct {
		list  []impl.Frozen
		one   int
		ok    bool
		times []int
	}{
		{[]impl.Frozen{f}, 23, true, []int{23}}, {[]impl.Frozen{f, f, f}, 23, true, []int{23}}, {[]impl.Frozen{f, {Hours: 8}}, 0, false, []int{22, 23}}, {[]impl.Frozen{{Hours: 6}, f, {Hours: 8}}, 0, false, []int{22, 23, 24}}, {[]impl.Frozen{{Hours: 6, Latest: 1}, f, {Hours: 8}}, 0, false, []int{22, 23}}, {[]impl.Frozen{{Hours: 6, Latest: 2}, {Hours: 7, Latest: 1}, {Hours: 8}}, 22, true, []int{22}}, {[]impl.Frozen{{Hours: 8, Latest: 48}, f}, 0, false, []int{22, 23}}, {[]impl.Frozen{{Hours: 1, Latest: 6}, f}, 23, true, []int{23}}, {[]impl.Frozen{{Hours: 1, Latest: 5}, f}, 0, false, []int{23, 29}},
	}
	for _, c := range cases {
		if hour, ok := impl.OneTime(c.list, 30); hour != c.one || ok != c.ok {
			t.Errorf("OneTime(%v, 30) = %d, %v; want %d, %v", c.list, hour, ok, c.one, c.ok)
		}
		if got := impl.FewestTimes(c.list, 30); !slices.Equal(got, c.times) {
			t.Errorf("FewestTimes(%v, 30) = %v, want %v", c.list, got, c.times)
		}
	}
}

// goodFrom returns the hours at which all pieces can be taken out.
func goodFrom(list []impl.Frozen, wanted int) []int {
	var hours []int
	for out := wanted - 100; out <= wanted; out++ {
		all := true
		for _, f := range list {
			all = all && impl.IsGood(f, out, wanted)
		}
		if all {
			hours = append(hours, out)
		}
	}
	return hours
}

func TestOneTime(t *testing.T) {
	if hour, ok := impl.OneTime(threePieces(), 30); hour != 0 || ok {
		t.Errorf("OneTime(%v, 30) = %d, %v; want 0, false", threePieces(), hour, ok)
	}
	if hour, ok := impl.OneTime(threePieces()[1:], 30); hour != 22 || !ok {
		t.Errorf("OneTime(%v, 30) = %d, %v; want 22, true", threePieces()[1:], hour, ok)
	}
	for _, list := range frozenLists() {
		for _, wanted := range []int{-48, 0, 30, 1000} {
			hours := goodFrom(list, wanted)
			hour, ok := impl.OneTime(list, wanted)
			if ok != (len(hours) > 0) || ok && hour != hours[len(hours)-1] || !ok && hour != 0 {
				t.Errorf("OneTime(%v, %d) = %d, %v; the good hours are %v", list, wanted, hour, ok, hours)
			}
		}
	}
	// An hour that is 0 is one as well.
	if hour, ok := impl.OneTime([]impl.Frozen{{Hours: 7}}, 7); hour != 0 || !ok {
		t.Errorf("OneTime with the hour 0 = %d, %v; want 0, true", hour, ok)
	}
}

// fewestTimesByTrying returns how many hours are needed: for the piece that is first
// too late, it tries all of its hours.
func fewestTimesByTrying(list []impl.Frozen, wanted int) int {
	if len(list) == 0 {
		return 0
	}
	first := list[0]
	for _, f := range list {
		if f.Hours > first.Hours {
			first = f
		}
	}
	fewest := len(list)
	for out := wanted - first.Hours - first.Latest; out <= wanted-first.Hours; out++ {
		var rest []impl.Frozen
		for _, f := range list {
			if !impl.IsGood(f, out, wanted) {
				rest = append(rest, f)
			}
		}
		fewest = min(fewest, 1+fewestTimesByTrying(rest, wanted))
	}
	return fewest
}

// One hour is enough just if all can share it.
func TestFewestTimes(t *testing.T) {
	if got := impl.FewestTimes(threePieces(), 30); !slices.Equal(got, []int{22, 25}) {
		t.Errorf("FewestTimes(%v, 30) = %v, want [22 25]", threePieces(), got)
	}
	for i, list := range frozenLists() {
		for _, wanted := range []int{-48, 30, 1000} {
			got := impl.FewestTimes(list, wanted)
			for k := 1; k < len(got); k++ {
				if got[k-1] >= got[k] {
					t.Errorf("FewestTimes(%v, %d) = %v is not ascending", list, wanted, got)
				}
			}
			chosen := map[int]bool{}
			for _, f := range list {
				good := false
				for _, out := range got {
					good = good || impl.IsGood(f, out, wanted)
				}
				if !good {
					t.Errorf("FewestTimes(%v, %d) = %v has no hour for %v", list, wanted, got, f)
				}
				chosen[wanted-f.Hours] = true
			}
			for _, out := range got {
				if !chosen[out] {
					t.Errorf("FewestTimes(%v, %d) = %v, but %d is the greatest hour of no piece", list, wanted, got, out)
				}
			}
			if hour, ok := impl.OneTime(list, wanted); ok != (len(got) == 1) || ok && got[0] != hour {
				t.Errorf("FewestTimes(%v, %d) = %v, but OneTime is %d, %v", list, wanted, got, hour, ok)
			}
			if len(list) <= 8 && i%2 == 0 && len(got) != fewestTimesByTrying(list, wanted) {
				t.Errorf("FewestTimes(%v, %d) = %v, want %d hours", list, wanted, got, fewestTimesByTrying(list, wanted))
			}
		}
	}
}

func TestThawRejects(t *testing.T) {
	good := impl.Frozen{Hours: 5, Latest: 2}
	if hour, ok := impl.OneTime(repeated(20, good), 30); hour != 25 || !ok {
		t.Errorf("OneTime of 20 pieces = %d, %v; want 25, true", hour, ok)
	}
	if got := impl.FewestTimes(repeated(20, good), 30); !slices.Equal(got, []int{25}) {
		t.Errorf("FewestTimes of 20 pieces = %v, want [25]", got)
	}
	if got := impl.FewestTimes(nil, 30); len(got) != 0 {
		t.Errorf("FewestTimes of no pieces = %v, want nothing", got)
	}
	for _, n := range []int{0, 21, 22, 300} {
		if hour, ok := impl.OneTime(repeated(n, good), 30); hour != 0 || ok {
			t.Errorf("OneTime of %d pieces = %d, %v; want 0, false", n, hour, ok)
		}
		if got := impl.FewestTimes(repeated(n, good), 30); len(got) != 0 {
			t.Errorf("FewestTimes of %d pieces = %v, want nothing", n, got)
		}
	}
	for _, list := range frozenLists() {
		for _, wanted := range outside(-48, 1000) {
			if hour, ok := impl.OneTime(list, wanted); hour != 0 || ok {
				t.Errorf("OneTime(%v, %d) = %d, %v; want 0, false", list, wanted, hour, ok)
			}
			if got := impl.FewestTimes(list, wanted); len(got) != 0 {
				t.Errorf("FewestTimes(%v, %d) = %v, want nothing", list, wanted, got)
			}
		}
	}
}

func TestFrozenAreNotChanged(t *testing.T) {
	mark := impl.Frozen{Hours: 7}
	given := withSpare(threePieces(), mark)
	impl.OneTime(given, 30)
	impl.FewestTimes(given, 30)
	checkUntouched(t, given, threePieces(), mark)
}
