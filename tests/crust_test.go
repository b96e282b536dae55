package tests

import (
	"slices"
	"testing"

	"loop.example/g03310/impl"
)

// sliceByCutting cuts whole slices off until none is left.
func sliceByCutting(length int, thick int) (int, int, int) {
	whole, cuts := 0, 0
	for length >= thick {
		if length > thick {
			cuts++
		}
		length -= thick
		whole++
	}
	return whole, length, cuts
}

func TestSlices(t *testing.T) {
	cases := []struct{ length, thick, whole, rest int }{
		{100, 12, 8, 4}, {96, 12, 8, 0}, {95, 12, 7, 11}, {97, 12, 8, 1}, {1, 1, 1, 0}, {1, 100, 0, 1}, {99, 100, 0, 99}, {100, 100, 1, 0}, {1000, 1, 1000, 0}, {1000, 100, 10, 0}, {999, 100, 9, 99},
	}
	for _, c := range cases {
		if whole, rest := impl.SlicesOf(c.length, c.thick), impl.LastSlice(c.length, c.thick); whole != c.whole || rest != c.rest {
			t.Errorf("SlicesOf and LastSlice of %d, %d = %d and %d; want %d and %d", c.length, c.thick, whole, rest, c.whole, c.rest)
		}
	}
	for _, n := range outside(1, 1000) {
		if a, b, c := impl.SlicesOf(n, 12), impl.LastSlice(n, 12), impl.CutsNeeded([]int{n}, 12); a != -1 || b != -1 || c != -1 {
			t.Errorf("SlicesOf, LastSlice and CutsNeeded of %d, 12 = %d, %d and %d; want -1", n, a, b, c)
		}
	}
	for _, n := range outside(1, 100) {
		if a, b, c := impl.SlicesOf(100, n), impl.LastSlice(100, n), impl.CutsNeeded([]int{100}, n); a != -1 || b != -1 || c != -1 {
			t.Errorf("SlicesOf, LastSlice and CutsNeeded of 100, %d = %d, %d and %d; want -1", n, a, b, c)
		}
	}
}

// Whole slices and the rest are the loaf.
func TestSlicesByCutting(t *testing.T) {
	for length := 1; length <= 1000; length++ {
		for thick := 1; thick <= 100; thick++ {
			whole, rest, cuts := sliceByCutting(length, thick)
			a, b, c := impl.SlicesOf(length, thick), impl.LastSlice(length, thick), impl.CutsNeeded([]int{length}, thick)
			if a != whole || b != rest || c != cuts || a*thick+b != length {
				t.Errorf("SlicesOf, LastSlice and CutsNeeded of %d, %d = %d, %d and %d; want %d, %d and %d", length, thick, a, b, c, whole, rest, cuts)
			}
		}
	}
}

// Whole slices without rest need one cut less than there are slices.
func TestWholeSlicesWithoutRest(t *testing.T) {
	for thick := 1; thick <= 100; thick++ {
		for n := 1; n*thick <= 1000; n++ {
			if a, b, c := impl.SlicesOf(n*thick, thick), impl.LastSlice(n*thick, thick), impl.CutsNeeded([]int{n * thick}, thick); a != n || b != 0 || c != n-1 {
				t.Errorf("%d slices of %d: %d with the rest %d and %d cuts", n, thick, a, b, c)
			}
			if got := impl.CutsNeeded([]int{n*thick + 1}, thick); n*thick < 1000 && thick > 1 && got != n {
				t.Errorf("%d slices of %d with a rest need %d cuts", n, thick, got)
			}
		}
	}
}

func TestEvenSlices(t *testing.T) {
	cases := []struct {
		length, n int
		want      []int
	}{
		{10, 4, []int{2, 5, 7}}, {10, 1, nil}, {1, 1, nil}, {2, 2, []int{1}}, {3, 2, []int{1}}, {5, 5, []int{1, 2, 3, 4}}, {10, 3, []int{3, 6}}, {11, 3, []int{3, 7}}, {1000, 2, []int{500}}, {999, 2, []int{499}},
	}
	for _, c := range cases {
		if got := impl.EvenSlices(c.length, c.n); !slices.Equal(got, c.want) {
			t.Errorf("EvenSlices(%d, %d) = %v, want %v", c.length, c.n, got, c.want)
		}
	}
	for _, n := range outside(1, 1000) {
		for _, parts := range []int{1, 4} {
			if got := impl.EvenSlices(n, parts); got != nil {
				t.Errorf("EvenSlices(%d, %d) = %v, want nil", n, parts, got)
			}
		}
	}
	for _, length := range []int{1, 2, 10, 1000} {
		for _, n := range outside(1, length) {
			if got := impl.EvenSlices(length, n); got != nil {
				t.Errorf("EvenSlices(%d, %d) = %v, want nil", length, n, got)
			}
		}
	}
}

// Even slices differ by one at most, and each cut is where it has to be.
func TestEvenSlicesDifferByOne(t *testing.T) {
	for length := 1; length <= 1000; length += 1 + length/25 {
		for n := 1; n <= length; n++ {
			places := append(impl.EvenSlices(length, n), length)
			if len(places) != n {
				t.Fatalf("EvenSlices(%d, %d) has %d cuts", length, n, len(places)-1)
			}
			before := 0
			for k, place := range places {
				if thick := place - before; thick < length/n || thick > (length+n-1)/n || place*n > (k+1)*length || (place+1)*n <= (k+1)*length {
					t.Errorf("EvenSlices(%d, %d): cut %d is at %d", length, n, k+1, place)
				}
				before = place
			}
		}
	}
}

func TestThickestFor(t *testing.T) {
	cases := []struct{ length, n, want int }{
		{100, 8, 12}, {5, 6, -1}, {5, 5, 1}, {1, 1, 1}, {1, 2, -1}, {1000, 1000, 1}, {999, 1000, -1}, {1000, 10, 100}, {1000, 9, 100}, {999, 10, 99}, {1000, 11, 90}, {100, 1, 100}, {101, 1, 100}, {99, 1, 99}, {1000, 1, 100}, {200, 2, 100}, {201, 2, 100}, {199, 2, 99},
	}
	for _, c := range cases {
		if got := impl.ThickestFor(c.length, c.n); got != c.want {
			t.Errorf("ThickestFor(%d, %d) = %d, want %d", c.length, c.n, got, c.want)
		}
	}
	for _, n := range outside(1, 1000) {
		if a, b, c := impl.ThickestFor(n, 8), impl.ThickestFor(100, n), impl.ThickestFor(1000, n); a != -1 || b != -1 || c != -1 {
			t.Errorf("ThickestFor with %d = %d, %d and %d; want -1", n, a, b, c)
		}
	}
	for length := 1; length <= 1000; length += 1 + length/40 {
		for n := 1; n <= 1000; n += 1 + n/40 {
			want := -1
			for thick := 1; thick <= 100; thick++ {
				if whole, _, _ := sliceByCutting(length, thick); whole >= n {
					want = thick
				}
			}
			if got := impl.ThickestFor(length, n); got != want {
				t.Errorf("ThickestFor(%d, %d) = %d, want %d", length, n, got, want)
			}
		}
	}
}

func TestCutsNeeded(t *testing.T) {
	cases := []struct {
		lengths []int
		thick   int
		want    int
	}{
		{[]int{24, 30, 5}, 12, 3}, {nil, 12, 0}, {[]int{5}, 12, 0}, {[]int{12}, 12, 0}, {[]int{13}, 12, 1}, {[]int{24}, 12, 1}, {[]int{25}, 12, 2}, {[]int{24, 24, 24}, 12, 3}, {[]int{1}, 1, 0}, {[]int{1000}, 1, 999}, {repeated(40, 1000), 1, 39960}, {repeated(40, 99), 100, 0},
	}
	for _, c := range cases {
		if got := impl.CutsNeeded(c.lengths, c.thick); got != c.want {
			t.Errorf("CutsNeeded(%v, %d) = %d, want %d", c.lengths, c.thick, got, c.want)
		}
	}
	bad := [][]int{repeated(41, 24), repeated(500, 24)}
	for _, n := range outside(1, 1000) {
		bad = append(bad, []int{n}, []int{n, 24}, []int{24, 30, n})
	}
	for _, lengths := range bad {
		if got := impl.CutsNeeded(lengths, 12); got != -1 {
			t.Errorf("CutsNeeded(%v, 12) = %d, want -1", lengths, got)
		}
	}
	for _, n := range outside(1, 100) {
		if got := impl.CutsNeeded([]int{24, 30, 5}, n); got != -1 {
			t.Errorf("CutsNeeded([24 30 5], %d) = %d, want -1", n, got)
		}
	}
	// Without loaves, no SlicesOf is -1.
	for _, thick := range []int{0, 101} {
		if a, b := impl.CutsNeeded(nil, thick), impl.CutsNeeded(repeated(41, 24), thick); a != 0 || b != -1 {
			t.Errorf("CutsNeeded with %d = %d and %d, want 0 and -1", thick, a, b)
		}
	}
}

// cubesOutside counts the cubes that have a side on the outside.
func cubesOutside(length int, wide int, high int) int {
	count := 0
	for x := range length {
		for y := range wide {
			for z := range high {
				if x == 0 || x == length-1 || y == 0 || y == wide-1 || z == 0 || z == high-1 {
					count++
				}
			}
		}
	}
	return count
}

func TestCrustParts(t *testing.T) {
	cases := []struct{ length, wide, high, want int }{
		{3, 4, 5, 54}, {1, 1, 1, 1}, {2, 2, 2, 8}, {3, 3, 3, 26}, {1, 100, 100, 10000}, {2, 100, 100, 20000}, {3, 100, 100, 30000 - 98*98}, {100, 100, 100, 1000000 - 98*98*98}, {1, 1, 100, 100}, {100, 1, 1, 100},
	}
	for _, c := range cases {
		if got := impl.CrustParts(c.length, c.wide, c.high); got != c.want {
			t.Errorf("CrustParts(%d, %d, %d) = %d, want %d", c.length, c.wide, c.high, got, c.want)
		}
	}
	for length := 1; length <= 9; length++ {
		for wide := 1; wide <= 8; wide++ {
			for high := 1; high <= 7; high++ {
				if got, want := impl.CrustParts(length, wide, high), cubesOutside(length, wide, high); got != want {
					t.Errorf("CrustParts(%d, %d, %d) = %d, want %d", length, wide, high, got, want)
				}
			}
		}
	}
	for _, n := range outside(1, 100) {
		if a, b, c, d := impl.CrustParts(n, 4, 5), impl.CrustParts(3, n, 5), impl.CrustParts(3, 4, n), impl.CrustParts(n, n, n); a != -1 || b != -1 || c != -1 || d != -1 {
			t.Errorf("CrustParts with %d = %d, %d, %d and %d; want -1", n, a, b, c, d)
		}
	}
}

func TestLengthsAreNotChanged(t *testing.T) {
	lengths := []int{24, 30, 5}
	given := withSpare(lengths, 77)
	impl.CutsNeeded(given, 12)
	checkUntouched(t, given, lengths, 77)
}
