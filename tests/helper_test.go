package tests

import (
	"math"
	"slices"
	"testing"
	"unsafe"
)

// farOut has numbers that are in no range of the document; with some of them,
// a product or a sum would wrap around into one.
var farOut = []int{
	math.MinInt64, math.MinInt64 + 1, math.MinInt64 / 1000, -1 << 32, -1000000001,
	1000000001, 1 << 32, 1 << 61, 1 << 62, math.MaxInt64 / 1000, math.MaxInt64 - 1, math.MaxInt64,
}

// outside returns numbers just outside the range low to high, and far from it.
func outside(low int, high int) []int {
	return append([]int{low - 1, high + 1}, farOut...)
}

// withSpare returns a copy of list with capacity behind it that has marks.
func withSpare[T any](list []T, mark T) []T {
	long := slices.Clone(list)
	for range 5 {
		long = append(long, mark)
	}
	return long[:len(list)]
}

// checkUntouched checks that neither list nor the marks behind it have changed.
func checkUntouched[T comparable](t *testing.T, list []T, before []T, mark T) {
	t.Helper()
	if !slices.Equal(list, before) {
		t.Errorf("the argument %v has become %v", before, list)
	}
	for _, m := range list[len(list) : len(list)+5] {
		if m != mark {
			t.Errorf("the capacity behind %v was changed", before)
		}
	}
}

// repeated returns a list of n times the same value.
func repeated[T any](n int, value T) []T {
	list := make([]T, n)
	for i := range list {
		list[i] = value
	}
	return list
}

// sharesText reports whether part begins in the memory of whole.
func sharesText(part string, whole string) bool {
	begin := uintptr(unsafe.Pointer(unsafe.StringData(whole)))
	at := uintptr(unsafe.Pointer(unsafe.StringData(part)))
	return at >= begin && at < begin+uintptr(len(whole))
}

// shortTexts returns all texts of at most so many of the letters.
func shortTexts(letters string, most int) []string {
	texts := []string{""}
	from := 0
	for range most {
		to := len(texts)
		for _, text := range texts[from:to] {
			for _, letter := range letters {
				texts = append(texts, text+string(letter))
			}
		}
		from = to
	}
	return texts
}
