package tests

import (
	"math"
	"math/rand/v2"
	"testing"

	"loop.example/g03310/impl"
)

func twoMachines() []impl.Machine {
	return []impl.Machine{{From: 0, To: 60, Watts: 100}, {From: 30, To: 90, Watts: 200}}
}

// touching machines run one after the other, without a minute in between.
func touching() []impl.Machine {
	return []impl.Machine{{From: 100, To: 200, Watts: 500}, {From: 200, To: 300, Watts: 700}, {From: 300, To: 301, Watts: 600}}
}

// machineLists are valid, with up to as many machines as there may be.
func machineLists() [][]impl.Machine {
	lists := [][]impl.Machine{
		nil, twoMachines(), touching(), {{From: 0, To: 1, Watts: 1}}, {{From: 1439, To: 1440, Watts: 10000}}, {{From: 0, To: 1440, Watts: 10000}}, repeated(12, impl.Machine{From: 0, To: 1440, Watts: 10000}), {{From: 0, To: 1439, Watts: 5}}, {{From: 1, To: 1440, Watts: 5}}, {{From: 700, To: 800, Watts: 3}, {From: 700, To: 800, Watts: 3}},
	}
	r := rand.New(rand.NewPCG(26, 0))
	for n := range 40 {
		list := make([]impl.Machine, n%12+1)
		for i := range list {
			from := r.IntN(1440)
			list[i] = impl.Machine{From: from, To: from + 1 + r.IntN(1440-from), Watts: 1 + r.IntN(10+n*n*6)}
		}
		lists = append(lists, list)
	}
	return lists
}

// badMachineLists have too many machines, or one that is not valid.
func badMachineLists() [][]impl.Machine {
	good := impl.Machine{From: 5, To: 9, Watts: 10}
	bad := []impl.Machine{{}, {From: 5, To: 5, Watts: 10}, {From: 5, To: 4, Watts: 10}, {From: 1440, To: 1441, Watts: 10}, {From: -1, To: 5, Watts: 10}, {From: 0, To: 1441, Watts: 10}, {From: 5, To: 9}, {From: 5, To: 9, Watts: 10001}, {From: 1439, To: 1439, Watts: 10}, {From: math.MaxInt64, To: math.MinInt64, Watts: 10}}
	for _, n := range outside(0, 1439) {
		bad = append(bad, impl.Machine{From: n, To: n + 1, Watts: 10}, impl.Machine{From: n, To: 9, Watts: 10}, impl.Machine{From: n, To: 1440, Watts: 10})
	}
	for _, n := range outside(6, 1440) {
		bad = append(bad, impl.Machine{From: 5, To: n, Watts: 10})
	}
	for _, n := range outside(1, 10000) {
		bad = append(bad, impl.Machine{From: 5, To: 9, Watts: n})
	}
	lists := [][]impl.Machine{repeated(13, good), repeated(100, good)}
	for _, m := range bad {
		lists = append(lists, []impl.Machine{m}, []impl.Machine{m, good}, []impl.Machine{good, good, m})
	}
	return lists
}

// powersByHand adds up each machine at each of its minutes.
func powersByHand(list []impl.Machine) [1440]int {
	var powers [1440]int
	for _, m := range list {
		for minute := m.From; minute < m.To; minute++ {
			powers[minute] += m.Watts
		}
	}
	return powers
}

func TestMachinesOk(t *testing.T) {
	for _, list := range machineLists() {
		if !impl.MachinesOk(list) {
			t.Errorf("MachinesOk(%v) = false", list)
		}
	}
	for _, list := range badMachineLists() {
		if impl.MachinesOk(list) {
			t.Errorf("MachinesOk(%v) = true", list)
		}
		minute, peak := impl.PeakPower(list)
		if minute != -1 || peak != -1 {
			t.Errorf("PeakPower(%v) = %d, %d; want -1, -1", list, minute, peak)
		}
		if a, b, c, d := impl.PowerAt(list, 7), impl.EnergyOf(list), impl.BestStart(list, 5, 5), impl.OverTimes(list, 0); a != -1 || b != -1 || c != -1 || d != -1 {
			t.Errorf("PowerAt, EnergyOf, BestStart and OverTimes of %v = %d, %d, %d and %d; want -1", list, a, b, c, d)
		}
	}
}

func TestMachinesThatTouch(t *testing.T) {
	list := touching()
	for _, c := range [][2]int{{99, 0}, {100, 500}, {199, 500}, {200, 700}, {299, 700}, {300, 600}, {301, 0}} {
		if got := impl.PowerAt(list, c[0]); got != c[1] {
			t.Errorf("PowerAt(%v, %d) = %d, want %d", list, c[0], got, c[1])
		}
	}
	if minute, peak := impl.PeakPower(list); minute != 200 || peak != 700 {
		t.Errorf("PeakPower(%v) = %d, %d; want 200, 700", list, minute, peak)
	}
	cases := []struct{ minutes, watts, want int }{
		{100, 700, 0}, {101, 200, 0}, {101, 201, 301}, {100, 701, 0}, {150, 100, 0}, {1139, 10000, 301}, {1140, 10000, 300}, {1140, 100, 300}, {1141, 10000, 0}, {1140, 99, 300},
	}
	for _, c := range cases {
		if got := impl.BestStart(list, c.minutes, c.watts); got != c.want {
			t.Errorf("BestStart(%v, %d, %d) = %d, want %d", list, c.minutes, c.watts, got, c.want)
		}
	}
	if a, b, c := impl.OverTimes(list, 499), impl.OverTimes(list, 500), impl.OverTimes(list, 600); a != 201 || b != 101 || c != 100 {
		t.Errorf("OverTimes(%v) of 499, 500 and 600 = %d, %d and %d; want 201, 101 and 100", list, a, b, c)
	}
}

func TestPowerAt(t *testing.T) {
	cases := []struct{ minute, want int }{{0, 100}, {29, 100}, {30, 300}, {59, 300}, {60, 200}, {89, 200}, {90, 0}, {1439, 0}}
	for _, c := range cases {
		if got := impl.PowerAt(twoMachines(), c.minute); got != c.want {
			t.Errorf("PowerAt(%v, %d) = %d, want %d", twoMachines(), c.minute, got, c.want)
		}
	}
	for _, list := range machineLists() {
		for minute, want := range powersByHand(list) {
			if got := impl.PowerAt(list, minute); got != want {
				t.Fatalf("PowerAt(%v, %d) = %d, want %d", list, minute, got, want)
			}
		}
		for _, minute := range outside(0, 1439) {
			if got := impl.PowerAt(list, minute); got != -1 {
				t.Errorf("PowerAt(%v, %d) = %d, want -1", list, minute, got)
			}
		}
	}
}

func TestPeakPower(t *testing.T) {
	cases := []struct {
		list         []impl.Machine
		minute, peak int
	}{
		{nil, 0, 0}, {twoMachines(), 30, 300}, {[]impl.Machine{{From: 1439, To: 1440, Watts: 3}}, 1439, 3}, {[]impl.Machine{{From: 700, To: 800, Watts: 3}, {From: 100, To: 200, Watts: 3}}, 100, 3}, {[]impl.Machine{{From: 5, To: 1440, Watts: 3}, {From: 7, To: 9, Watts: 1}, {From: 800, To: 900, Watts: 1}}, 7, 4},
	}
	for _, c := range cases {
		if minute, peak := impl.PeakPower(c.list); minute != c.minute || peak != c.peak {
			t.Errorf("PeakPower(%v) = %d, %d; want %d, %d", c.list, minute, peak, c.minute, c.peak)
		}
	}
	for _, list := range machineLists() {
		minute, peak := impl.PeakPower(list)
		for other, power := range powersByHand(list) {
			if power > peak || power == peak && other < minute || other == minute && power != peak {
				t.Errorf("PeakPower(%v) = %d, %d; but at %d there are %d", list, minute, peak, other, power)
			}
		}
	}
}

// Energy is the sum of power over the day.
func TestEnergyOf(t *testing.T) {
	if a, b, c := impl.EnergyOf(nil), impl.EnergyOf(twoMachines()), impl.EnergyOf(repeated(12, impl.Machine{From: 0, To: 1440, Watts: 10000})); a != 0 || b != 18000 || c != 172800000 {
		t.Errorf("EnergyOf = %d, %d and %d; want 0, 18000 and 172800000", a, b, c)
	}
	for _, list := range machineLists() {
		sum := 0
		for minute := range 1440 {
			sum += impl.PowerAt(list, minute)
		}
		if got := impl.EnergyOf(list); got != sum {
			t.Errorf("EnergyOf(%v) = %d, want %d", list, got, sum)
		}
	}
}

func TestBestStart(t *testing.T) {
	l := twoMachines()
	day := []impl.Machine{{From: 0, To: 1439, Watts: 100}}
	cases := []struct {
		list                 []impl.Machine
		minutes, watts, want int
	}{
		{l, 20, 150, 0}, {l, 20, 400, 90}, {l, 30, 200, 0}, {l, 30, 201, 90}, {l, 31, 200, 90}, {l, 31, 50, 60}, {l, 30, 100, 0}, {l, 1350, 400, 90}, {l, 1351, 400, 60}, {l, 1380, 400, 60}, {l, 1381, 400, 0}, {l, 1440, 1, 0}, {l, 1, 10000, 90},
		{nil, 1, 1, 0}, {nil, 1440, 10000, 0}, {day, 1, 50, 1439}, {day, 2, 50, 0}, {day, 20, 50, 0}, {[]impl.Machine{{From: 0, To: 1438, Watts: 100}}, 2, 1, 1438}, {[]impl.Machine{{From: 0, To: 1440, Watts: 100}}, 1, 1, 0},
	}
	for _, c := range cases {
		if got := impl.BestStart(c.list, c.minutes, c.watts); got != c.want {
			t.Errorf("BestStart(%v, %d, %d) = %d, want %d", c.list, c.minutes, c.watts, got, c.want)
		}
	}
	eleven := repeated(11, impl.Machine{From: 0, To: 60, Watts: 10})
	if got := impl.BestStart(eleven, 5, 5); got != 60 {
		t.Errorf("BestStart of 11 machines = %d, want 60", got)
	}
	if got := impl.BestStart(append(eleven, eleven[0]), 5, 5); got != -1 {
		t.Errorf("BestStart of 12 machines = %d, want -1", got)
	}
	for _, list := range [][]impl.Machine{nil, l} {
		for _, n := range outside(1, 1440) {
			if got := impl.BestStart(list, n, 400); got != -1 {
				t.Errorf("BestStart(%v, %d, 400) = %d, want -1", list, n, got)
			}
		}
		for _, n := range outside(1, 10000) {
			if got := impl.BestStart(list, 20, n); got != -1 {
				t.Errorf("BestStart(%v, 20, %d) = %d, want -1", list, n, got)
			}
		}
	}
}

// No start has a lesser peak than the best one, and no start before it has the
// same.
func TestBestStartByTrying(t *testing.T) {
	for i, list := range machineLists() {
		if len(list) == 12 {
			continue
		}
		for k, minutes := range []int{1, 37, 500, 1300, 1439, 1440} {
			watts := []int{1, 50, 900, 10000}[(i+k)%4]
			best, least := -1, 0
			for from := 0; from+minutes <= 1440; from++ {
				with := append(append([]impl.Machine{}, list...), impl.Machine{From: from, To: from + minutes, Watts: watts})
				peak := 0
				for _, power := range powersByHand(with) {
					peak = max(peak, power)
				}
				if best < 0 || peak < least {
					best, least = from, peak
				}
			}
			got := impl.BestStart(list, minutes, watts)
			if got != best {
				t.Errorf("BestStart(%v, %d, %d) = %d, want %d", list, minutes, watts, got, best)
				continue
			}
			with := append(append([]impl.Machine{}, list...), impl.Machine{From: got, To: got + minutes, Watts: watts})
			if _, peak := impl.PeakPower(with); peak != least {
				t.Errorf("PeakPower(%v) = %d, want %d", with, peak, least)
			}
		}
	}
}

func TestOverTimes(t *testing.T) {
	cases := []struct {
		list       []impl.Machine
		most, want int
	}{
		{twoMachines(), 0, 90}, {twoMachines(), 99, 90}, {twoMachines(), 100, 60}, {twoMachines(), 150, 60}, {twoMachines(), 199, 60}, {twoMachines(), 200, 30}, {twoMachines(), 299, 30}, {twoMachines(), 300, 0}, {nil, 0, 0}, {repeated(12, impl.Machine{From: 0, To: 1440, Watts: 10000}), 119999, 1440}, {repeated(12, impl.Machine{From: 0, To: 1440, Watts: 10000}), 120000, 0}, {twoMachines(), 1000000, 0}, {[]impl.Machine{{From: 1439, To: 1440, Watts: 1}}, 0, 1}, {[]impl.Machine{{From: 0, To: 1, Watts: 1}}, 0, 1},
	}
	for _, c := range cases {
		if got := impl.OverTimes(c.list, c.most); got != c.want {
			t.Errorf("OverTimes(%v, %d) = %d, want %d", c.list, c.most, got, c.want)
		}
	}
	for _, list := range machineLists() {
		for _, most := range []int{0, 1, 9, 100, 3000, 10000, 20000} {
			want := 0
			for _, power := range powersByHand(list) {
				if power > most {
					want++
				}
			}
			if got := impl.OverTimes(list, most); got != want {
				t.Errorf("OverTimes(%v, %d) = %d, want %d", list, most, got, want)
			}
		}
		for _, most := range outside(0, 1000000) {
			if got := impl.OverTimes(list, most); got != -1 {
				t.Errorf("OverTimes(%v, %d) = %d, want -1", list, most, got)
			}
		}
	}
}

func TestMachinesAreNotChanged(t *testing.T) {
	mark := impl.Machine{From: 7}
	given := withSpare(twoMachines(), mark)
	impl.PowerAt(given, 5)
	impl.PeakPower(given)
	impl.EnergyOf(given)
	impl.BestStart(given, 20, 400)
	impl.OverTimes(given, 100)
	checkUntouched(t, given, twoMachines(), mark)
}
