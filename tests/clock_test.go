package tests

import (
	"fmt"
	"slices"
	"strings"
	"testing"

	"loop.example/g03310/impl"
)

func TestTimeText(t *testing.T) {
	cases := []struct {
		minute int
		want   string
	}{
		{307, "5:07"}, {0, "0:00"}, {1, "0:01"}, {59, "0:59"}, {60, "1:00"}, {599, "9:59"}, {600, "10:00"}, {610, "10:10"}, {1439, "23:59"}, {1380, "23:00"},
	}
	for _, c := range cases {
		if got := impl.TimeText(c.minute); got != c.want {
			t.Errorf("TimeText(%d) = %q, want %q", c.minute, got, c.want)
		}
	}
	for _, n := range outside(0, 1439) {
		if got := impl.TimeText(n); got != "" {
			t.Errorf("TimeText(%d) = %q, want nothing", n, got)
		}
	}
}

// Times can be read back.
func TestReadTime(t *testing.T) {
	for hour := range 24 {
		for minute := range 60 {
			text := fmt.Sprintf("%d:%02d", hour, minute)
			if got := impl.TimeText(60*hour + minute); got != text {
				t.Errorf("TimeText(%d) = %q, want %q", 60*hour+minute, got, text)
			}
			if got, ok := impl.ReadTime(text); !ok || got != 60*hour+minute {
				t.Errorf("ReadTime(%q) = %d, %v; want %d, true", text, got, ok, 60*hour+minute)
			}
		}
	}
	bad := []string{
		"", ":", "5", "307", "0", "5:", ":07", "5:7", "05:07", "005:07", "5:007", "5:070", "5:60", "5:99", "24:00", "24:01", "99:99", "100:00", "-5:07", "5:-7", "+5:07", "5:+7", " 5:07", "5:07 ", "5 :07", "5: 07", "5:0 7", "5::07", "5:07:", ":5:07", "5:07:00", "5.07", "5h07", "5;07", "5\x0007", "5:07\n", "a:07", "5:a7", "５:07", "5:0７", "5：07", "5:07\xff", "\xff5:07", "00:00", "0:0", "0:60", "1:60", "0:000", "-0:00", "0:07m",
		// With wraparound, some of these numbers would be those of a time.
		"18446744073709551616:00", "18446744073709551621:07", "5:18446744073709551623", "307445734561825860:00", "307445734561825861:07", "0:18446744073709551616", "9223372036854775808:00", strings.Repeat("9", 400) + ":00", strings.Repeat("0", 20000) + "5:07", strings.Repeat("5:07", 5000),
	}
	for _, text := range bad {
		if got, ok := impl.ReadTime(text); ok || got != 0 {
			t.Errorf("ReadTime(%q) = %d, %v; want 0, false", text, got, ok)
		}
	}
}

// Of all short texts, just those of the clock are read.
func TestReadTimeAllShort(t *testing.T) {
	times := map[string]int{}
	for minute := range 1440 {
		times[impl.TimeText(minute)] = minute
	}
	for _, text := range shortTexts("01259: h", 5) {
		want, wantOk := times[text]
		if got, ok := impl.ReadTime(text); got != want || ok != wantOk {
			t.Errorf("ReadTime(%q) = %d, %v; want %d, %v", text, got, ok, want, wantOk)
		}
	}
}

// Both ways around make a day.
func TestMinutesTo(t *testing.T) {
	cases := []struct{ from, to, want int }{
		{1400, 20, 60}, {20, 1400, 1380}, {0, 0, 0}, {1439, 1439, 0}, {700, 700, 0}, {0, 1439, 1439}, {1439, 0, 1}, {0, 1, 1}, {1, 0, 1439}, {600, 720, 120},
	}
	for _, c := range cases {
		if got := impl.MinutesTo(c.from, c.to); got != c.want {
			t.Errorf("MinutesTo(%d, %d) = %d, want %d", c.from, c.to, got, c.want)
		}
	}
	for from := 0; from < 1440; from += 1 + from%13 {
		for to := 0; to < 1440; to += 1 + to%7 {
			there, back := impl.MinutesTo(from, to), impl.MinutesTo(to, from)
			clock := from
			for range there {
				clock++
				if clock == 1440 {
					clock = 0
				}
			}
			if clock != to || there < 0 || there > 1439 || from != to && there+back != 1440 || from == to && there+back != 0 {
				t.Errorf("MinutesTo(%d, %d) = %d, and back %d", from, to, there, back)
			}
		}
	}
	for _, n := range outside(0, 1439) {
		for _, good := range []int{0, 700, 1439} {
			if a, b, c := impl.MinutesTo(n, good), impl.MinutesTo(good, n), impl.MinutesTo(n, n); a != -1 || b != -1 || c != -1 {
				t.Errorf("MinutesTo of %d and %d = %d, %d and %d; want -1", n, good, a, b, c)
			}
		}
	}
}

func TestLengthText(t *testing.T) {
	cases := []struct {
		minutes int
		want    string
	}{
		{125, "2h 5m"}, {120, "2h"}, {5, "5m"}, {0, "0m"}, {1, "1m"}, {59, "59m"}, {60, "1h"}, {61, "1h 1m"}, {119, "1h 59m"}, {600, "10h"}, {1440, "24h"}, {100000, "1666h 40m"}, {99999, "1666h 39m"}, {99960, "1666h"},
	}
	for _, c := range cases {
		if got := impl.LengthText(c.minutes); got != c.want {
			t.Errorf("LengthText(%d) = %q, want %q", c.minutes, got, c.want)
		}
	}
	for _, n := range outside(0, 100000) {
		if got := impl.LengthText(n); got != "" {
			t.Errorf("LengthText(%d) = %q, want nothing", n, got)
		}
	}
}

// Lengths can be read back.
func TestReadLength(t *testing.T) {
	for minutes := 0; minutes <= 100000; minutes++ {
		var fields []string
		if hours := minutes / 60; hours > 0 {
			fields = append(fields, fmt.Sprintf("%dh", hours))
		}
		if rest := minutes % 60; rest > 0 || minutes == 0 {
			fields = append(fields, fmt.Sprintf("%dm", rest))
		}
		text := strings.Join(fields, " ")
		if got := impl.LengthText(minutes); got != text {
			t.Fatalf("LengthText(%d) = %q, want %q", minutes, got, text)
		}
		if got, ok := impl.ReadLength(text); !ok || got != minutes {
			t.Fatalf("ReadLength(%q) = %d, %v; want %d, true", text, got, ok, minutes)
		}
	}
	bad := []string{
		"", " ", "h", "m", "5", "0", "0h", "0h 0m", "0h 5m", "2h 0m", "00m", "05m", "02h", "2h 05m", "65m", "60m", "2h 60m", "2h 65m", "2h5m", "2h  5m", " 2h", "2h ", "2h 5m ", " 2h 5m", "5m 2h", "2h 5", "2 5m", "2 h", "2h 5 m", "2H", "2h 5M", "2hm", "2h m", "h 5m", "2h 5m 5m", "2h 2h", "1h 1h 5m", "-5m", "-2h", "+5m", "2h -5m", "2.5h", "2h,5m", "2h\t5m", "2h 5m\n", "5m\x00", "２h", "2h ５m", "2h\u00a05m", "5m\xff", "1666h 41m", "1667h", "100001m", "100000m", "2:05", "120", "2h:5m", "125m",
		"18446744073709551616h", "18446744073709551621m", "307445734561825861h 5m", "307445734561825862h", strings.Repeat("9", 400) + "h", strings.Repeat("0", 20000) + "5m", strings.Repeat("2h", 5000),
	}
	for _, text := range bad {
		if got, ok := impl.ReadLength(text); ok || got != 0 {
			t.Errorf("ReadLength(%q) = %d, %v; want 0, false", text, got, ok)
		}
	}
}

// Of all short texts, just those of a length are read.
func TestReadLengthAllShort(t *testing.T) {
	lengths := map[string]int{}
	for minutes := range 60 * 1000 {
		lengths[impl.LengthText(minutes)] = minutes
	}
	for _, text := range shortTexts("0256hm :", 6) {
		want, wantOk := lengths[text]
		if got, ok := impl.ReadLength(text); got != want || ok != wantOk {
			t.Errorf("ReadLength(%q) = %d, %v; want %d, %v", text, got, ok, want, wantOk)
		}
	}
}

func TestIsBetween(t *testing.T) {
	cases := []struct {
		minute, from, to int
		want             bool
	}{
		{10, 1400, 20, true}, {20, 1400, 20, false}, {1400, 1400, 20, true}, {1399, 1400, 20, false}, {19, 1400, 20, true}, {1439, 1400, 20, true}, {0, 1400, 20, true}, {700, 1400, 20, false}, {10, 5, 20, true}, {5, 5, 20, true}, {4, 5, 20, false}, {20, 5, 20, false}, {19, 5, 20, true}, {1400, 5, 20, false}, {5, 5, 5, false}, {6, 5, 5, false}, {4, 5, 5, false},
	}
	for _, c := range cases {
		if got := impl.IsBetween(c.minute, c.from, c.to); got != c.want {
			t.Errorf("IsBetween(%d, %d, %d) = %v", c.minute, c.from, c.to, got)
		}
	}
	some := []int{0, 1, 20, 300, 719, 720, 1000, 1400, 1438, 1439}
	for _, from := range some {
		for _, to := range some {
			// All minutes from one to the other, on one day or over midnight.
			between := map[int]bool{}
			for minute := from; minute != to; minute = (minute + 1) % 1440 {
				between[minute] = true
			}
			for minute := range 1440 {
				if got := impl.IsBetween(minute, from, to); got != between[minute] {
					t.Errorf("IsBetween(%d, %d, %d) = %v", minute, from, to, got)
				}
			}
			for _, n := range outside(0, 1439) {
				if impl.IsBetween(n, from, to) || impl.IsBetween(from, n, to) || impl.IsBetween(from, from, n) || impl.IsBetween(n, n, to) || impl.IsBetween(from, n, n) || impl.IsBetween(n, from, n) {
					t.Errorf("IsBetween with %d, %d and %d is true", n, from, to)
				}
			}
		}
	}
}

// At midnight, the clock goes on with a new day.
func TestMidnight(t *testing.T) {
	if got, ok := impl.ReadTime("0:00"); got != 0 || !ok {
		t.Errorf("ReadTime at midnight = %d, %v; want 0, true", got, ok)
	}
	if got, ok := impl.ReadLength("24h"); got != 1440 || !ok || impl.LengthText(got) != "24h" {
		t.Errorf("ReadLength(\"24h\") = %d, %v; want 1440, true", got, ok)
	}
	if a, b := impl.TimeText(1440), impl.MinutesTo(0, 1440); a != "" || b != -1 {
		t.Errorf("midnight is the minute 0, not 1440: %q, %d", a, b)
	}
	for _, c := range [][3]int{{1439, 0, 1}, {0, 1439, 1439}, {1430, 10, 20}, {10, 1430, 1420}, {720, 0, 720}, {0, 720, 720}} {
		if got := impl.MinutesTo(c[0], c[1]); got != c[2] {
			t.Errorf("MinutesTo(%d, %d) = %d, want %d", c[0], c[1], got, c[2])
		}
	}
	var night []int
	for minute := range 1440 {
		if impl.IsBetween(minute, 1438, 2) {
			night = append(night, minute)
		}
	}
	if !slices.Equal(night, []int{0, 1, 1438, 1439}) {
		t.Errorf("the minutes from 1438 to 2 are %v", night)
	}
	if impl.IsBetween(0, 1430, 0) || !impl.IsBetween(1439, 1430, 0) || !impl.IsBetween(0, 0, 10) || impl.IsBetween(0, 0, 0) {
		t.Error("IsBetween at midnight is wrong")
	}
}
