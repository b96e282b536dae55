package tests

import (
	"fmt"
	"math"
	"slices"
	"strings"
	"testing"

	"loop.example/g03310/impl"
)

// allBytes has each byte value once, in ascending order.
func allBytes() string {
	b := make([]byte, 256)
	for i := range b {
		b[i] = byte(i)
	}
	return string(b)
}

func TestTextLimits(t *testing.T) {
	if impl.MaxInputLen != 20000 || impl.MaxUint != 1000000000 || impl.MaxLineLen != 600 || impl.MaxFieldsPerLine != 24 {
		t.Error("a limit differs from the document")
	}
}

func TestEncodeHex(t *testing.T) {
	cases := []struct{ in, want string }{
		{"", ""},
		{"az", "617a"},
		{"\x00", "00"},
		{"\x0f\xf0", "0ff0"},
		{"\xff\xfe", "fffe"},
		{" 0A\n", "2030410a"},
		{"é", "c3a9"},
	}
	for _, c := range cases {
		if got, ok := impl.EncodeHex(c.in); !ok || got != c.want {
			t.Errorf("EncodeHex(%q) = %q, %v; want %q, true", c.in, got, ok, c.want)
		}
	}
}

func TestEncodeHexOfAllBytes(t *testing.T) {
	want := ""
	for i := range 256 {
		want += fmt.Sprintf("%02x", i)
	}
	if got, ok := impl.EncodeHex(allBytes()); !ok || got != want {
		t.Errorf("EncodeHex of all bytes = %q, %v", got, ok)
	}
}

func TestEncodeHexLimit(t *testing.T) {
	got, ok := impl.EncodeHex(strings.Repeat("\xa5", 20000))
	if !ok || got != strings.Repeat("a5", 20000) {
		t.Errorf("20000 bytes: length %d, %v", len(got), ok)
	}
	for _, n := range []int{20001, 20002, 40000, 100000} {
		if got, ok := impl.EncodeHex(strings.Repeat("a", n)); ok || got != "" {
			t.Errorf("%d bytes: length %d, %v; want the empty string, false", n, len(got), ok)
		}
	}
}

func TestDecodeHex(t *testing.T) {
	cases := []struct{ in, want string }{
		{"", ""},
		{"617a", "az"},
		{"00", "\x00"},
		{"0ff0", "\x0f\xf0"},
		{"ff", "\xff"},
		{"0123456789abcdef", "\x01\x23\x45\x67\x89\xab\xcd\xef"},
	}
	for _, c := range cases {
		if got, ok := impl.DecodeHex(c.in); !ok || got != c.want {
			t.Errorf("DecodeHex(%q) = %q, %v; want %q, true", c.in, got, ok, c.want)
		}
	}
}

func TestDecodeHexRejects(t *testing.T) {
	bad := []string{
		"0", "6", "617", "617a0", "0x61", "61 ", " 61", "61 7a", "61\n",
		"6A", "A6", "FF", "Ff", "g0", "0g", "/0", "0/", ":0", "0:", "`0", "0`", "@0", "0@",
		"-1", "+1", "\x00\x00", "é", "617a6", "617aZZ", "zz617a", "61zz7a",
	}
	for _, s := range bad {
		if got, ok := impl.DecodeHex(s); ok || got != "" {
			t.Errorf("DecodeHex(%q) = %q, %v; want the empty string, false", s, got, ok)
		}
	}
}

// Every string of two bytes is decoded just if it is the encoding of the result.
func TestDecodeHexOfAllPairs(t *testing.T) {
	decoded := 0
	for i := range 256 {
		for j := range 256 {
			s := string([]byte{byte(i), byte(j)})
			got, ok := impl.DecodeHex(s)
			if !ok {
				if got != "" {
					t.Errorf("DecodeHex(%q) = %q, false", s, got)
				}
				continue
			}
			decoded++
			if fmt.Sprintf("%x", got) != s {
				t.Errorf("DecodeHex(%q) = %q", s, got)
			}
		}
	}
	if decoded != 256 {
		t.Errorf("%d pairs are decoded, want 256", decoded)
	}
}

func TestDecodeHexLimit(t *testing.T) {
	got, ok := impl.DecodeHex(strings.Repeat("a5", 20000))
	if !ok || got != strings.Repeat("\xa5", 20000) {
		t.Errorf("40000 digits: length %d, %v", len(got), ok)
	}
	for _, n := range []int{39999, 40001, 40002, 80000} {
		if got, ok := impl.DecodeHex(strings.Repeat("a", n)); ok || got != "" {
			t.Errorf("%d digits: length %d, %v; want the empty string, false", n, len(got), ok)
		}
	}
	last := strings.Repeat("a", 39999) + "A"
	if got, ok := impl.DecodeHex(last); ok || got != "" {
		t.Errorf("an invalid last digit: length %d, %v; want the empty string, false", len(got), ok)
	}
}

func TestHexIsReadBack(t *testing.T) {
	all := allBytes()
	texts := []string{"", "a", all, strings.Repeat(all, 78), strings.Repeat("z", 20000)}
	for i := range len(all) {
		texts = append(texts, all[i:i+1])
	}
	for _, s := range texts {
		h, ok := impl.EncodeHex(s)
		back, right := impl.DecodeHex(h)
		if !ok || !right || back != s || len(h) != 2*len(s) {
			t.Errorf("a text of %d bytes is not read back", len(s))
		}
	}
}

func TestFormatInt(t *testing.T) {
	cases := []struct {
		n    int
		want string
	}{
		{0, "0"}, {1, "1"}, {9, "9"}, {10, "10"}, {100, "100"}, {907, "907"},
		{-1, "-1"}, {-5, "-5"}, {-10, "-10"},
		{1000000000, "1000000000"}, {1000000001, "1000000001"}, {-1000000000, "-1000000000"},
		{math.MaxInt64, "9223372036854775807"},
		{math.MinInt64, "-9223372036854775808"},
		{math.MinInt64 + 1, "-9223372036854775807"},
	}
	for _, c := range cases {
		if got := impl.FormatInt(c.n); got != c.want {
			t.Errorf("FormatInt(%d) = %q, want %q", c.n, got, c.want)
		}
	}
}

func TestParseUint(t *testing.T) {
	cases := []struct {
		s    string
		want int
	}{
		{"0", 0}, {"1", 1}, {"9", 9}, {"10", 10}, {"100", 100}, {"907", 907},
		{"123456789", 123456789}, {"999999999", 999999999}, {"1000000000", 1000000000},
	}
	for _, c := range cases {
		if got, ok := impl.ParseUint(c.s); !ok || got != c.want {
			t.Errorf("ParseUint(%q) = %d, %v; want %d, true", c.s, got, ok, c.want)
		}
	}
}

func TestParseUintRejects(t *testing.T) {
	bad := []string{
		"", " ", "00", "01", "007", "0000000000", "01000000000", "00000000001",
		"-0", "-1", "-1000000000", "+0", "+1", "+", "-", "--1",
		" 1", "1 ", "1\n", "\t1", "1 2", "\x001", "1\x00",
		"1_000", "0x1", "0b1", "0o7", "1e3", "1.0", "1.", ",1", "a", "1a", "a1", "/", ":",
		"１", "٣", "\xff",
		"1000000001", "1000000009", "2000000000", "9999999999", "10000000000",
		"4294967296", "4294967301", "9223372036854775807", "9223372036854775808",
		"18446744073709551615", "18446744073709551616", "18446744073709551621",
		strings.Repeat("1", 600), strings.Repeat("0", 20000),
	}
	for _, s := range bad {
		if got, ok := impl.ParseUint(s); ok || got != 0 {
			t.Errorf("ParseUint(%q) = %d, %v; want 0, false", s, got, ok)
		}
	}
}

func TestNumbersAreReadBack(t *testing.T) {
	check := func(n int) {
		s := impl.FormatInt(n)
		got, ok := impl.ParseUint(s)
		want := n >= 0 && n <= impl.MaxUint
		if ok != want || ok && got != n || !ok && got != 0 {
			t.Errorf("ParseUint(%q) = %d, %v; want %v", s, got, ok, want)
		}
		if got, ok := impl.ParseUint("0" + s); ok || got != 0 {
			t.Errorf("ParseUint(%q) = %d, %v; want 0, false", "0"+s, got, ok)
		}
	}
	for n := -2000; n <= 20000; n++ {
		check(n)
	}
	for n := impl.MaxUint - 2000; n <= impl.MaxUint+2000; n++ {
		check(n)
	}
	for n := 1; n < math.MaxInt64/7; n *= 7 {
		check(n)
		check(-n)
	}
}

func TestSplitFields(t *testing.T) {
	cases := []struct {
		line string
		want []string
	}{
		{"", nil},
		{" ", nil},
		{"     ", nil},
		{"a", []string{"a"}},
		{"add 1", []string{"add", "1"}},
		{" add  1 ", []string{"add", "1"}},
		{"   a", []string{"a"}},
		{"a   ", []string{"a"}},
		{"a b c", []string{"a", "b", "c"}},
		{"a  b   c", []string{"a", "b", "c"}},
		{"b a b", []string{"b", "a", "b"}},
		{"! ~ !~", []string{"!", "~", "!~"}},
		{"buy 0 0100", []string{"buy", "0", "0100"}},
	}
	for _, c := range cases {
		got, ok := impl.SplitFields(c.line)
		if !ok || !slices.Equal(got, c.want) {
			t.Errorf("SplitFields(%q) = %q, %v; want %q, true", c.line, got, ok, c.want)
		}
	}
}

// Each byte is allowed or not, wherever it stands in a line.
func TestSplitFieldsOfAllBytes(t *testing.T) {
	for i := range 256 {
		b := string([]byte{byte(i)})
		for _, line := range []string{b, b + "a", "a" + b, "a" + b + "c", "a " + b, " " + b + " c", "a c" + b} {
			got, ok := impl.SplitFields(line)
			if i < 32 || i > 126 {
				if ok || got != nil {
					t.Errorf("SplitFields(%q) = %q, %v; want nil, false", line, got, ok)
				}
				continue
			}
			var want []string
			for _, f := range strings.Split(line, " ") {
				if f != "" {
					want = append(want, f)
				}
			}
			if !ok || !slices.Equal(got, want) {
				t.Errorf("SplitFields(%q) = %q, %v; want %q, true", line, got, ok, want)
			}
		}
	}
	printable := allBytes()[33:127]
	if got, ok := impl.SplitFields(printable); !ok || !slices.Equal(got, []string{printable}) {
		t.Errorf("SplitFields of all bytes of a field = %q, %v", got, ok)
	}
}

func TestSplitFieldsLineLimit(t *testing.T) {
	long := strings.Repeat("a", 600)
	if got, ok := impl.SplitFields(long); !ok || !slices.Equal(got, []string{long}) {
		t.Errorf("a field of 600 bytes: %q, %v", got, ok)
	}
	if got, ok := impl.SplitFields(strings.Repeat(" ", 600)); !ok || len(got) != 0 {
		t.Errorf("600 spaces: %q, %v; want no fields, true", got, ok)
	}
	if got, ok := impl.SplitFields(strings.Repeat(" ", 599) + "b"); !ok || !slices.Equal(got, []string{"b"}) {
		t.Errorf("599 spaces and a field: %q, %v", got, ok)
	}
	for _, line := range []string{
		long + "a", long + " ", " " + long, strings.Repeat(" ", 601), strings.Repeat(" ", 600) + "b",
		strings.Repeat("a", 20000), strings.Repeat("a", 599) + "\n", strings.Repeat("a", 599) + "\x7f",
	} {
		if got, ok := impl.SplitFields(line); ok || got != nil {
			t.Errorf("a line of %d bytes: %q, %v; want nil, false", len(line), got, ok)
		}
	}
}

func TestSplitFieldsFieldLimit(t *testing.T) {
	most := strings.Repeat("x ", 23) + "x"
	for _, line := range []string{most, " " + most + "  ", strings.Repeat("x  ", 24)} {
		got, ok := impl.SplitFields(line)
		if !ok || len(got) != 24 || slices.ContainsFunc(got, func(f string) bool { return f != "x" }) {
			t.Errorf("SplitFields(%q) = %q, %v; want 24 fields", line, got, ok)
		}
	}
	for _, line := range []string{most + " x", "x " + most, most + " x ", strings.Repeat("x ", 300), most + "\t"} {
		if got, ok := impl.SplitFields(line); ok || got != nil {
			t.Errorf("SplitFields(%q) = %q, %v; want nil, false", line, got, ok)
		}
	}
}

func TestSplitFieldsHasMemoryOfItsOwn(t *testing.T) {
	line := strings.Repeat("bake 12 ", 3)
	first, _ := impl.SplitFields(line)
	second, _ := impl.SplitFields(line)
	if len(first) != 6 || len(second) != 6 {
		t.Fatalf("SplitFields(%q) = %q and %q", line, first, second)
	}
	for i := range first {
		first[i] = "changed"
	}
	if second[0] != "bake" || line[:7] != "bake 12" {
		t.Error("two results share memory")
	}
	for _, f := range second {
		if sharesText(f, line) {
			t.Errorf("the field %q shares memory with the line", f)
		}
	}
}

func TestClamp(t *testing.T) {
	cases := []struct{ n, low, high, want int }{
		{3, 1, 5, 3}, {9, 1, 5, 5}, {0, 1, 5, 1}, {1, 1, 5, 1}, {5, 1, 5, 5}, {6, 1, 5, 5},
		{-7, -9, -3, -7}, {-10, -9, -3, -9}, {0, -9, -3, -3},
		{4, 4, 4, 4}, {3, 4, 4, 4}, {5, 4, 4, 4},
		{0, 5, 1, 5}, {3, 5, 1, 5}, {9, 5, 1, 5}, {1, 5, 1, 5},
		{0, math.MinInt64, math.MaxInt64, 0},
		{math.MaxInt64, math.MinInt64, 0, 0},
		{math.MinInt64, 0, math.MaxInt64, 0},
		{math.MinInt64, math.MinInt64, math.MaxInt64, math.MinInt64},
		{math.MaxInt64, math.MinInt64, math.MaxInt64, math.MaxInt64},
		{7, math.MaxInt64, math.MinInt64, math.MaxInt64},
	}
	for _, c := range cases {
		if got := impl.Clamp(c.n, c.low, c.high); got != c.want {
			t.Errorf("Clamp(%d, %d, %d) = %d, want %d", c.n, c.low, c.high, got, c.want)
		}
	}
}

func TestClampedValuesAreInTheRange(t *testing.T) {
	for low := -4; low <= 4; low++ {
		for high := -4; high <= 4; high++ {
			for n := -6; n <= 6; n++ {
				got := impl.Clamp(n, low, high)
				inside := n >= low && n <= high
				switch {
				case high < low && got != low,
					high >= low && (got < low || got > high),
					inside && got != n,
					high >= low && !inside && got != low && got != high,
					high >= low && n > high && got != high,
					high >= low && n < low && got != low:
					t.Errorf("Clamp(%d, %d, %d) = %d", n, low, high, got)
				}
			}
		}
	}
}
