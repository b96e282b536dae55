package tests

import (
	"fmt"
	"math/rand/v2"
	"slices"
	"strings"
	"testing"

	"loop.example/g03310/impl"
)

func TestFormatAct(t *testing.T) {
	cases := []struct {
		act  impl.Act
		want string
	}{
		{impl.Act{Kind: impl.AcBake, A: 5}, "bake 5"}, {impl.Act{Kind: impl.AcBake}, "bake 0"}, {impl.Act{Kind: impl.AcSell, A: 2}, "sell 2"}, {impl.Act{Kind: impl.AcCheap, A: 1000}, "cheap 1000"}, {impl.Act{Kind: impl.AcMorning}, "morning"}, {impl.Act{Kind: impl.AcBuy, A: 1, B: 200}, "buy 1 200"}, {impl.Act{Kind: impl.AcBuy}, "buy 0 0"}, {impl.Act{Kind: impl.AcBuy, A: 3, B: 100000}, "buy 3 100000"}, {impl.Act{Kind: impl.AcFlour, A: 40}, "flour 40"},
	}
	for _, c := range cases {
		if got, ok := impl.FormatAct(c.act); !ok || got != c.want {
			t.Errorf("FormatAct(%v) = %q, %v; want %q, true", c.act, got, ok, c.want)
		}
	}
	for _, a := range badActs() {
		if got, ok := impl.FormatAct(a); ok || got != "" {
			t.Errorf("FormatAct(%v) = %q, %v; want nothing, false", a, got, ok)
		}
		if got, ok := impl.ScriptText([]impl.Act{a}); ok || got != "" {
			t.Errorf("ScriptText(%v) = %q, %v; want nothing, false", a, got, ok)
		}
	}
}

// badLines are not the text of an act.
func badLines() []string {
	list := []string{
		"", " ", "   ", "buy 1", "buy", "buy 1 200 3", "buy 4 5", "buy 1 100001", "buy -1 5", "buy 1 -5", "buy 01 5", "buy 1 05", "buy 1,5", "buy a 5", "buy 1 a", "bake", "bake 5 5", "bake 5 0", "bake 1001", "bake -1", "bake -0", "bake +5", "bake 05", "bake 00", "bake 5.0", "bake 5x", "bake x", "bake five", "bake 0x5", "bake 1e2", "bake 1_0", "bake 9223372036854775808", "bake 18446744073709551621", "bake 1000000001", "bake " + strings.Repeat("9", 500), "sell", "sell 1001", "sell 2 2", "cheap", "cheap 1001", "cheap 1 1", "morning 0", "morning 1", "morning 0 0", "morning morning", "flour", "flour 1001", "flour 1 1", "Bake 5", "BAKE 5", "bak 5", "bakes 5", "bake5", "5", "5 bake", "1 5", "act 5", "sellcheap 5", "bake,5", "bake\t5", "bake 5\t", "\tbake 5", "bake 5\n", "\nbake 5", "bake 5\r", "bake\x005", "bake 5\x7f", "bäke 5", "bake ５", "bake\u00a05", "bake 5\xff", "morning\n", "# bake 5", "bake 5;",
		// A line may have 600 bytes and 24 fields.
		"bake " + strings.Repeat(" ", 595) + "5", "morning" + strings.Repeat(" ", 594), strings.Repeat("a ", 25), strings.Repeat("morning ", 24), strings.Repeat("bake ", 30000),
	}
	for b := range 256 {
		if b != ' ' && (b < '0' || b > '9') {
			list = append(list, "bake 5"+string([]byte{byte(b)}), string([]byte{byte(b)})+"bake 5", "bake"+string([]byte{byte(b)})+"5")
		}
	}
	return list
}

// Acts can be parsed from their text.
func TestParseAct(t *testing.T) {
	for _, a := range someActs() {
		text, ok := impl.FormatAct(a)
		if !ok {
			t.Errorf("FormatAct(%v) = %q, false", a, text)
		}
		for _, line := range []string{text, " " + text, text + "  ", "  " + strings.ReplaceAll(text, " ", "   ") + " "} {
			if got, ok := impl.ParseAct(line); !ok || got != a {
				t.Errorf("ParseAct(%q) = %v, %v; want %v, true", line, got, ok, a)
			}
		}
	}
	long := "bake " + strings.Repeat(" ", 594) + "5"
	if got, ok := impl.ParseAct(long); !ok || got != (impl.Act{Kind: impl.AcBake, A: 5}) {
		t.Errorf("ParseAct of 600 bytes = %v, %v", got, ok)
	}
	for _, line := range badLines() {
		if got, ok := impl.ParseAct(line); ok || got != (impl.Act{}) {
			t.Errorf("ParseAct(%q) = %v, %v; want the zero Act, false", line, got, ok)
		}
	}
}

// Whatever is parsed has the fields of its line.
func TestParseActRandom(t *testing.T) {
	words := []string{"bake", "sell", "cheap", "morning", "buy", "flour", "0", "1", "3", "4", "05", "1000", "1001", "100000", "-1", "x"}
	r := rand.New(rand.NewPCG(40, 0))
	parsed := 0
	for range 40000 {
		var fields []string
		for range r.IntN(5) {
			fields = append(fields, words[r.IntN(len(words))])
		}
		line := strings.Join(fields, strings.Repeat(" ", 1+r.IntN(2)))
		a, ok := impl.ParseAct(line)
		text, valid := impl.FormatAct(a)
		if ok != valid || ok && text != strings.Join(fields, " ") || !ok && a != (impl.Act{}) {
			t.Errorf("ParseAct(%q) = %v, %v, whose text is %q", line, a, ok, text)
		}
		if want := isAct(fields); ok != want {
			t.Errorf("ParseAct(%q) = %v, %v; want %v", line, a, ok, want)
		}
		if ok {
			parsed++
		}
	}
	if parsed < 500 {
		t.Errorf("just %d lines were parsed", parsed)
	}
}

// isAct knows the words of TestParseActRandom.
func isAct(fields []string) bool {
	upTo := func(i int, numbers ...string) bool { return slices.Contains(numbers, fields[i]) }
	switch {
	case len(fields) == 1:
		return fields[0] == "morning"
	case len(fields) == 2:
		return upTo(0, "bake", "sell", "cheap", "flour") && upTo(1, "0", "1", "3", "4", "1000")
	case len(fields) == 3:
		return upTo(0, "buy") && upTo(1, "0", "1", "3") && upTo(2, "0", "1", "3", "4", "1000", "1001", "100000")
	}
	return false
}

func TestRunScript(t *testing.T) {
	cases := []struct {
		text string
		want []string
	}{
		{"flour 0\nmorning\n\n", []string{"0", "1", "stock 4000 3000 100 800", "rack 0 0 0", "book 0 0 0", "money 50"}}, {"", []string{"stock 4000 3000 100 800", "rack 0 0 0", "book 0 0 0", "money 50"}}, {"flour 4\nbake 4\nsell 3\nmorning\ncheap 2\ncheap 1\nbuy 2 101", []string{"1260", "1", "1", "1", "0", "1", "1", "stock 2740 2181 176 548", "rack 0 0 0", "book 4 4 0", "money 62"}}, {"bake 14", []string{"0", "stock 4000 3000 100 800", "rack 0 0 0", "book 0 0 0", "money 50"}}, {"  bake   4  \n buy 0 250", []string{"1", "1", "stock 2990 2181 75 548", "rack 4 0 0", "book 4 0 0", "money 47"}},
	}
	for _, c := range cases {
		for _, text := range []string{c.text, c.text + "\n", "\n" + c.text, "\n  \n" + strings.ReplaceAll(c.text, "\n", "\n\n   \n") + "\n\n"} {
			if got, ok := impl.RunScript(text); !ok || !slices.Equal(got, c.want) {
				t.Errorf("RunScript(%q) = %q, %v; want %q, true", text, got, ok, c.want)
			}
		}
	}
}

// Empty lines and lines of spaces are ignored, but not those that cannot be
// split.
func TestEmptyLines(t *testing.T) {
	want := []string{"stock 4000 3000 100 800", "rack 0 0 0", "book 0 0 0", "money 50"}
	for _, text := range []string{"", "\n", "\n\n\n", " ", "   \n  ", strings.Repeat("\n", 20000), strings.Repeat(" ", 600), strings.Repeat(strings.Repeat(" ", 600)+"\n", 33)} {
		if got, ok := impl.RunScript(text); !ok || !slices.Equal(got, want) {
			t.Errorf("RunScript(%q) = %q, %v; want %q, true", text, got, ok, want)
		}
	}
	for _, text := range []string{"\t", "\n\t\n", "\r\n", "\r", "\x00", "\v", "\f", strings.Repeat(" ", 601), "\n" + strings.Repeat(" ", 601) + "\n", "\u00a0", "\u2028", "\x85"} {
		if got, ok := impl.RunScript(text); ok || len(got) != 0 {
			t.Errorf("RunScript(%q) = %q, %v; want nothing, false", text, got, ok)
		}
	}
	if got, ok := impl.RunScript("morning\n\n\nflour 0\n \n"); !ok || len(got) != 6 || got[0] != "1" || got[1] != "0" {
		t.Errorf("RunScript with empty lines between acts = %q, %v", got, ok)
	}
}

func TestRunScriptRejects(t *testing.T) {
	for _, line := range badLines() {
		if strings.Trim(line, " \n") == "" || strings.Contains(line, "\n") {
			continue
		}
		for _, text := range []string{line, "morning\n" + line, line + "\nmorning", "bake 1\n" + line + "\nmorning\n"} {
			if got, ok := impl.RunScript(text); ok || len(got) != 0 {
				t.Errorf("RunScript(%q) = %q, %v; want nothing, false", text, got, ok)
			}
		}
	}
	for _, text := range []string{"bake\n5", "bake 5\r\nmorning", "morning morning", "morning;morning", "morning\x00", "morning\rmorning"} {
		if got, ok := impl.RunScript(text); ok || len(got) != 0 {
			t.Errorf("RunScript(%q) = %q, %v; want nothing, false", text, got, ok)
		}
	}
}

func TestScriptLimits(t *testing.T) {
	for _, line := range []string{"morning\n", "flour 0\n", "bake 999\n"} {
		if got, ok := impl.RunScript(strings.Repeat(line, 40)); !ok || len(got) != 44 {
			t.Errorf("RunScript of 40 lines %q = %q, %v", line, got, ok)
		}
		for _, n := range []int{41, 42, 1000} {
			if got, ok := impl.RunScript(strings.Repeat(line, n)); ok || len(got) != 0 {
				t.Errorf("RunScript of %d lines %q = %q, %v; want nothing, false", n, line, got, ok)
			}
		}
	}
	// A text may have 20000 bytes.
	if got, ok := impl.RunScript("morning" + strings.Repeat("\n", 19993)); !ok || len(got) != 5 {
		t.Errorf("RunScript of 20000 bytes = %q, %v", got, ok)
	}
	for _, text := range []string{"morning" + strings.Repeat("\n", 19994), strings.Repeat("\n", 20001), strings.Repeat(" ", 20001), strings.Repeat("\n", 1<<20)} {
		if got, ok := impl.RunScript(text); ok || len(got) != 0 {
			t.Errorf("RunScript of %d bytes = %q, %v; want nothing, false", len(text), got, ok)
		}
	}
}

func TestScriptText(t *testing.T) {
	cases := []struct {
		acts []impl.Act
		want string
	}{
		{[]impl.Act{{Kind: impl.AcSell, A: 2}}, "sell 2\n"}, {nil, ""}, {[]impl.Act{}, ""}, {oneDay(), "flour 4\nbake 4\nsell 3\nmorning\ncheap 2\ncheap 1\nbuy 2 101\n"}, {repeated(40, impl.Act{Kind: impl.AcMorning}), strings.Repeat("morning\n", 40)},
	}
	for _, c := range cases {
		if got, ok := impl.ScriptText(c.acts); !ok || got != c.want {
			t.Errorf("ScriptText(%v) = %q, %v; want %q, true", c.acts, got, ok, c.want)
		}
	}
	bad := [][]impl.Act{repeated(41, impl.Act{Kind: impl.AcMorning}), repeated(500, impl.Act{Kind: impl.AcMorning}), {{}}, append(oneDay(), impl.Act{}), append([]impl.Act{{Kind: 7}}, oneDay()...)}
	for _, acts := range bad {
		if got, ok := impl.ScriptText(acts); ok || got != "" {
			t.Errorf("ScriptText(%v) = %q, %v; want nothing, false", acts, got, ok)
		}
	}
	given := withSpare(oneDay(), impl.Act{Kind: 77})
	impl.ScriptText(given)
	checkUntouched(t, given, oneDay(), impl.Act{Kind: 77})
}

// Scripts can be run: a script does what its acts do.
func TestScriptsAreActs(t *testing.T) {
	r := rand.New(rand.NewPCG(40, 1))
	all := someActs()
	for range 100 {
		acts := make([]impl.Act, r.IntN(41))
		for i := range acts {
			acts[i] = randomAct(r)
			if r.IntN(5) == 0 {
				acts[i] = all[r.IntN(len(all))]
			}
		}
		text, ok := impl.ScriptText(acts)
		if !ok {
			t.Errorf("ScriptText(%v) = %q, false", acts, text)
		}
		b, numbers := impl.RunActs(impl.SampleBakery(), acts)
		var want []string
		for _, n := range numbers {
			want = append(want, fmt.Sprint(n))
		}
		want = append(want, impl.FormatBakery(b)...)
		if got, ok := impl.RunScript(text); !ok || !slices.Equal(got, want) {
			t.Errorf("RunScript(%q) = %q, %v; want %q, true", text, got, ok, want)
		}
	}
}
