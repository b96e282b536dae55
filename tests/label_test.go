package tests

import (
	"math/rand/v2"
	"slices"
	"strings"
	"testing"

	"loop.example/g03310/impl"
)

func threeParts() []impl.Part {
	return []impl.Part{{Name: "salt", Grams: 20}, {Name: "flour", Grams: 1000}, {Name: "rye", Grams: 20}}
}

// twelveParts are as many as there may be.
func twelveParts() []impl.Part {
	var list []impl.Part
	for i := range 12 {
		list = append(list, impl.Part{Name: strings.Repeat(string(rune('a'+i*2)), 1+i%10), Grams: 1 + i*7%5*900})
	}
	return list
}

// partLists are valid, with equal weights, and with names of which one begins
// with the other.
func partLists() [][]impl.Part {
	lists := [][]impl.Part{
		threeParts(), twelveParts(), {{Name: "a", Grams: 1}}, {{Name: "z", Grams: 100000}}, {{Name: "abcdefghij", Grams: 5}, {Name: "abcdefghi", Grams: 5}, {Name: "b", Grams: 5}, {Name: "a", Grams: 5}}, {{Name: "zz", Grams: 3}, {Name: "z", Grams: 3}, {Name: "az", Grams: 3}, {Name: "aa", Grams: 2}}, {{Name: "a", Grams: 100000}, {Name: "b", Grams: 100000}, {Name: "c", Grams: 1}},
	}
	r := rand.New(rand.NewPCG(28, 0))
	for n := range 60 {
		used := map[string]bool{}
		var list []impl.Part
		for len(list) < n%12+1 {
			name := randomName(r)
			if !used[name] {
				used[name] = true
				list = append(list, impl.Part{Name: name, Grams: 1 + r.IntN(3+n*n*27)})
			}
		}
		lists = append(lists, list)
	}
	return lists
}

func randomName(r *rand.Rand) string {
	name := make([]byte, 1+r.IntN(10))
	for i := range name {
		name[i] = byte('a' + r.IntN(26))
	}
	return string(name)
}

// badNames have no letters, too many, or bytes that are none.
func badNames() []string {
	list := []string{"", "abcdefghijk", strings.Repeat("a", 100), "ä", "aä", "é", "a\xff", "\x80", "\x00", "a\nb", "Rye", "rYe", "ryE", "rye ", " rye", "r ye", "rye,", ",rye", "rye1", "1", "-", "ｒye", "rye\u0301"}
	for b := range 256 {
		if b < 'a' || b > 'z' {
			list = append(list, "a"+string([]byte{byte(b)}), string([]byte{byte(b)})+"a")
		}
	}
	return list
}

// badPartLists have no parts, too many, two with one name, or one that is not
// valid.
func badPartLists() [][]impl.Part {
	good := impl.Part{Name: "flour", Grams: 1000}
	lists := [][]impl.Part{nil, {}, {{}}, append(twelveParts(), good), {good, good}, {good, {Name: "flour", Grams: 5}}, {good, {Name: "rye", Grams: 5}, {Name: "flour", Grams: 5}}, {{Name: "a", Grams: 1}, {Name: "b", Grams: 1}, {Name: "b", Grams: 1}}, repeated(12, good), repeated(500, good)}
	for _, name := range badNames() {
		lists = append(lists, []impl.Part{{Name: name, Grams: 5}}, []impl.Part{good, {Name: name, Grams: 5}}, []impl.Part{{Name: name, Grams: 5}, good})
	}
	for _, n := range outside(1, 100000) {
		lists = append(lists, []impl.Part{{Name: "rye", Grams: n}}, []impl.Part{good, {Name: "rye", Grams: n}}, []impl.Part{{Name: "rye", Grams: n}, good})
	}
	return lists
}

func TestPartsOk(t *testing.T) {
	for _, list := range partLists() {
		if !impl.PartsOk(list) {
			t.Errorf("PartsOk(%v) = false", list)
		}
	}
	for _, list := range badPartLists() {
		if impl.PartsOk(list) {
			t.Errorf("PartsOk(%v) = true", list)
		}
		if a, b, c := impl.SortedParts(list), impl.LabelText(list), impl.MustName(list, 0); len(a) != 0 || b != "" || len(c) != 0 {
			t.Errorf("SortedParts, LabelText and MustName of %v = %v, %q and %q; want nothing", list, a, b, c)
		}
	}
}

// sortedByHand always takes the part with the most grams, of equal ones the one
// whose name is less.
func sortedByHand(list []impl.Part) []impl.Part {
	left := slices.Clone(list)
	var sorted []impl.Part
	for len(left) > 0 {
		best := 0
		for i, p := range left {
			if p.Grams > left[best].Grams || p.Grams == left[best].Grams && p.Name < left[best].Name {
				best = i
			}
		}
		sorted = append(sorted, left[best])
		left = slices.Delete(left, best, best+1)
	}
	return sorted
}

// A label names the most first.
func TestSortedParts(t *testing.T) {
	want := []impl.Part{{Name: "flour", Grams: 1000}, {Name: "rye", Grams: 20}, {Name: "salt", Grams: 20}}
	if got := impl.SortedParts(threeParts()); !slices.Equal(got, want) {
		t.Errorf("SortedParts(%v) = %v, want %v", threeParts(), got, want)
	}
	for _, list := range partLists() {
		if got, want := impl.SortedParts(list), sortedByHand(list); !slices.Equal(got, want) {
			t.Errorf("SortedParts(%v) = %v, want %v", list, got, want)
		}
	}
}

// Parts with equal weights are named in the order of their names, whatever their
// order was.
func TestEqualWeights(t *testing.T) {
	cases := []struct {
		list []impl.Part
		want string
	}{
		{[]impl.Part{{Name: "b", Grams: 5}, {Name: "a", Grams: 5}}, "a, b"}, {[]impl.Part{{Name: "a", Grams: 5}, {Name: "b", Grams: 5}}, "a, b"}, {[]impl.Part{{Name: "ab", Grams: 5}, {Name: "a", Grams: 5}, {Name: "abc", Grams: 5}}, "a, ab, abc"}, {[]impl.Part{{Name: "b", Grams: 5}, {Name: "ab", Grams: 5}, {Name: "c", Grams: 6}}, "c, ab, b"}, {[]impl.Part{{Name: "z", Grams: 1}, {Name: "y", Grams: 2}, {Name: "x", Grams: 1}, {Name: "w", Grams: 2}}, "w, y, x, z"},
	}
	for _, c := range cases {
		if got := impl.LabelText(c.list); got != c.want {
			t.Errorf("LabelText(%v) = %q, want %q", c.list, got, c.want)
		}
		if got := impl.MustName(c.list, 0); strings.Join(got, ", ") != c.want {
			t.Errorf("MustName(%v, 0) = %q, want %q", c.list, got, c.want)
		}
	}
	r := rand.New(rand.NewPCG(28, 1))
	equal := twelveParts()
	for i := range equal {
		equal[i].Grams = 70
	}
	want := impl.LabelText(equal)
	for range 40 {
		r.Shuffle(len(equal), func(i int, k int) { equal[i], equal[k] = equal[k], equal[i] })
		if got := impl.LabelText(equal); got != want {
			t.Errorf("LabelText(%v) = %q, want %q", equal, got, want)
		}
	}
}

// A label can be read back.
func TestLabelText(t *testing.T) {
	for _, list := range partLists() {
		want := ""
		for i, p := range sortedByHand(list) {
			if i > 0 {
				want += ", "
			}
			want += p.Name
		}
		got := impl.LabelText(list)
		if got != want {
			t.Errorf("LabelText(%v) = %q, want %q", list, got, want)
		}
		names, ok := impl.ReadLabel(got)
		if !ok || len(names) != len(list) {
			t.Errorf("ReadLabel(%q) = %q, %v", got, names, ok)
			continue
		}
		for i, p := range sortedByHand(list) {
			if names[i] != p.Name {
				t.Errorf("ReadLabel(%q) = %q, but name %d is %q", got, names, i, p.Name)
			}
		}
	}
}

func TestPercentText(t *testing.T) {
	flour := impl.Part{Name: "flour", Grams: 1000}
	cases := []struct {
		part  impl.Part
		whole int
		want  string
	}{
		{flour, 1040, "flour 96%"}, {flour, 1000, "flour 100%"}, {flour, 1001, "flour 99%"}, {flour, 1010, "flour 99%"}, {flour, 1011, "flour 98%"}, {flour, 100000, "flour 1%"}, {flour, 100001, "flour 0%"}, {flour, 1000000, "flour 0%"}, {impl.Part{Name: "a", Grams: 1}, 1, "a 100%"}, {impl.Part{Name: "abcdefghij", Grams: 1}, 2, "abcdefghij 50%"}, {impl.Part{Name: "z", Grams: 100000}, 100000, "z 100%"}, {impl.Part{Name: "z", Grams: 100000}, 1000000, "z 10%"}, {impl.Part{Name: "z", Grams: 99999}, 1000000, "z 9%"},
	}
	for _, c := range cases {
		if got := impl.PercentText(c.part, c.whole); got != c.want {
			t.Errorf("PercentText(%v, %d) = %q, want %q", c.part, c.whole, got, c.want)
		}
	}
	for _, whole := range outside(1000, 1000000) {
		if got := impl.PercentText(flour, whole); got != "" {
			t.Errorf("PercentText(%v, %d) = %q, want nothing", flour, whole, got)
		}
	}
	for _, name := range badNames() {
		if got := impl.PercentText(impl.Part{Name: name, Grams: 5}, 100); got != "" {
			t.Errorf("PercentText of the name %q = %q, want nothing", name, got)
		}
	}
	for _, n := range outside(1, 100000) {
		for _, whole := range []int{1, 1000, 1000000} {
			if got := impl.PercentText(impl.Part{Name: "rye", Grams: n}, whole); got != "" {
				t.Errorf("PercentText of %d grams in %d = %q, want nothing", n, whole, got)
			}
		}
	}
	if got := impl.PercentText(impl.Part{}, 0); got != "" {
		t.Errorf("PercentText of the zero Part = %q, want nothing", got)
	}
}

func TestMustName(t *testing.T) {
	quarters := []impl.Part{{Name: "a", Grams: 1}, {Name: "c", Grams: 2}, {Name: "b", Grams: 1}}
	cases := []struct {
		list    []impl.Part
		percent int
		want    []string
	}{
		{threeParts(), 5, []string{"flour"}}, {threeParts(), 1, []string{"flour", "rye", "salt"}}, {threeParts(), 2, []string{"flour"}}, {threeParts(), 0, []string{"flour", "rye", "salt"}}, {threeParts(), 96, []string{"flour"}}, {threeParts(), 97, nil}, {threeParts(), 100, nil}, {quarters, 25, []string{"c", "a", "b"}}, {quarters, 26, []string{"c"}}, {quarters, 50, []string{"c"}}, {quarters, 51, nil}, {[]impl.Part{{Name: "a", Grams: 1}}, 100, []string{"a"}}, {[]impl.Part{{Name: "a", Grams: 100000}, {Name: "b", Grams: 100000}}, 50, []string{"a", "b"}},
	}
	for _, c := range cases {
		if got := impl.MustName(c.list, c.percent); !slices.Equal(got, c.want) {
			t.Errorf("MustName(%v, %d) = %q, want %q", c.list, c.percent, got, c.want)
		}
	}
	for _, list := range partLists() {
		whole := 0
		for _, p := range list {
			whole += p.Grams
		}
		for percent := range 101 {
			var want []string
			for _, p := range sortedByHand(list) {
				if p.Grams*100 >= percent*whole {
					want = append(want, p.Name)
				}
			}
			if got := impl.MustName(list, percent); !slices.Equal(got, want) {
				t.Errorf("MustName(%v, %d) = %q, want %q", list, percent, got, want)
			}
		}
		for _, percent := range outside(0, 100) {
			if got := impl.MustName(list, percent); len(got) != 0 {
				t.Errorf("MustName(%v, %d) = %q, want nothing", list, percent, got)
			}
		}
	}
}

func TestReadLabel(t *testing.T) {
	cases := []struct {
		text string
		want []string
	}{
		{"flour, rye, salt", []string{"flour", "rye", "salt"}}, {"a", []string{"a"}}, {"salt, flour", []string{"salt", "flour"}}, {"abcdefghij, a", []string{"abcdefghij", "a"}}, {"a, b, c, d, e, f, g, h, i, j, k, l", []string{"a", "b", "c", "d", "e", "f", "g", "h", "i", "j", "k", "l"}}, {"az, za", []string{"az", "za"}},
	}
	for _, c := range cases {
		if got, ok := impl.ReadLabel(c.text); !ok || !slices.Equal(got, c.want) {
			t.Errorf("ReadLabel(%q) = %q, %v; want %q, true", c.text, got, ok, c.want)
		}
	}
	bad := []string{
		"", " ", ",", ", ", ",,", "flour,rye", "flour ,rye", "flour rye", "flour,  rye", "flour , rye", "flour, rye,", "flour, rye, ", ", flour", ",flour", " flour", "flour ", "flour,", "flour, ", "flour, , rye", "flour,, rye", "flour, rye, flour", "a, a", "a, b, b", "flour\n", "flour, rye\n", "flour,\trye", "flour,\nrye", "flour;rye", "a, b, c, d, e, f, g, h, i, j, k, l, m", "abcdefghijk", "a, abcdefghijk", "flour, \u00a0rye", strings.Repeat("a, ", 3000), strings.Repeat(", ", 30000), strings.Repeat("a", 20000),
	}
	for _, name := range badNames() {
		if name != "rye," && name != ",rye" {
			bad = append(bad, "a, "+name, name+", a", "a, "+name+", b")
		}
		bad = append(bad, name)
	}
	for _, text := range bad {
		if got, ok := impl.ReadLabel(text); ok || len(got) != 0 {
			t.Errorf("ReadLabel(%q) = %q, %v; want nothing, false", text, got, ok)
		}
	}
}

// Of all short texts, just those that join valid names are read.
func TestReadLabelAllShort(t *testing.T) {
	for _, text := range shortTexts("ab, A", 6) {
		got, ok := impl.ReadLabel(text)
		if ok && (strings.Join(got, ", ") != text || strings.ContainsAny(strings.Join(got, ""), ", A") || slices.Contains(got, "")) {
			t.Errorf("ReadLabel(%q) = %q", text, got)
		}
		if wanted := isLabel(text); ok != wanted {
			t.Errorf("ReadLabel(%q) = %q, %v; want %v", text, got, ok, wanted)
		}
	}
}

// isLabel takes names from the beginning of text.
func isLabel(text string) bool {
	used := map[string]bool{}
	for {
		n := 0
		for n < len(text) && text[n] >= 'a' && text[n] <= 'z' {
			n++
		}
		if n == 0 || used[text[:n]] {
			return false
		}
		used[text[:n]] = true
		if n == len(text) {
			return true
		}
		if !strings.HasPrefix(text[n:], ", ") {
			return false
		}
		text = text[n+2:]
	}
}

func TestLabelsHaveMemoryOfTheirOwn(t *testing.T) {
	text := strings.Join([]string{"flour", "rye", "salt"}, ", ")
	names, _ := impl.ReadLabel(text)
	for _, name := range names {
		if sharesText(name, text) {
			t.Errorf("the name %q shares memory with the label", name)
		}
	}
	only := []impl.Part{{Name: text[:5], Grams: 1000}}
	results := append(impl.MustName(only, 0), impl.SortedParts(only)[0].Name, impl.LabelText(only), impl.PercentText(only[0], 1000))
	for _, result := range results {
		if sharesText(result, text) {
			t.Errorf("%q shares memory with the name of the part", result)
		}
	}
}

func TestPartsAreNotChanged(t *testing.T) {
	mark := impl.Part{Name: "mark", Grams: 7}
	given := withSpare(threeParts(), mark)
	sorted := impl.SortedParts(given)
	impl.LabelText(given)
	impl.MustName(given, 0)
	sorted[0].Name = "changed"
	checkUntouched(t, given, threeParts(), mark)
}
