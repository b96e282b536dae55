package impl

import (
	"strconv"
	"strings"
)

const (
	MaxInputLen      = 20000
	MaxUint          = 1000000000
	MaxLineLen       = 600
	MaxFieldsPerLine = 24
)

const hexDigits = "0123456789abcdef"

// EncodeHex returns two lowercase hexadecimal digits per byte of s, the high
// half first, or false if s is longer than MaxInputLen.
func EncodeHex(s string) (string, bool) {
	if len(s) > MaxInputLen {
		return "", false
	}
	text := make([]byte, 0, 2*len(s))
	for i := 0; i < len(s); i++ {
		text = append(text, hexDigits[s[i]>>4], hexDigits[s[i]&15])
	}
	return string(text), true
}

// DecodeHex returns the string whose EncodeHex is s, or false if there is none.
func DecodeHex(s string) (string, bool) {
	if len(s)%2 != 0 || len(s) > 2*MaxInputLen {
		return "", false
	}
	text := make([]byte, 0, len(s)/2)
	for i := 0; i < len(s); i += 2 {
		high := strings.IndexByte(hexDigits, s[i])
		low := strings.IndexByte(hexDigits, s[i+1])
		if high < 0 || low < 0 {
			return "", false
		}
		text = append(text, byte(high<<4|low))
	}
	return string(text), true
}

// FormatInt returns n in decimal without leading zeros.
func FormatInt(n int) string {
	return strconv.Itoa(n)
}

// ParseUint returns the number in the range 0 to MaxUint that FormatInt writes
// as s, or false if there is none.
func ParseUint(s string) (int, bool) {
	n, err := strconv.Atoi(s)
	if err != nil || n < 0 || n > MaxUint {
		return 0, false
	}
	// Atoi also accepts a sign and leading zeros, which FormatInt never writes.
	if FormatInt(n) != s {
		return 0, false
	}
	return n, true
}

// SplitFields returns the maximal runs of bytes other than the space, or false
// if the line is too long, has too many fields or contains an invalid byte.
func SplitFields(line string) ([]string, bool) {
	if len(line) > MaxLineLen {
		return nil, false
	}
	fields, read := scanFields(line)
	if read < len(line) || len(fields) > MaxFieldsPerLine {
		return nil, false
	}
	return fields, true
}

// scanFields returns the fields before the first invalid byte and the number
// of bytes before it, which is the length of a line without invalid bytes.
func scanFields(line string) ([]string, int) {
	var fields []string
	start, read := 0, 0
scan:
	for read < len(line) {
		c := line[read]
		switch {
		case c < ' ' || c > '~':
			break scan
		case c == ' ':
			fields = addField(fields, line[start:read])
			start = read + 1
		}
		read++
	}
	return addField(fields, line[start:read]), read
}

// addField leaves out the empty runs between neighbouring spaces.
func addField(fields []string, field string) []string {
	if field == "" {
		return fields
	}
	// A part of a string keeps the memory of the whole, and a result shares
	// none with an argument.
	return append(fields, strings.Clone(field))
}

// Clamp returns n clamped to the range low to high, or low if high is less.
func Clamp(n int, low int, high int) int {
	// The lower bound is applied last so that it wins if high is less than low.
	return max(low, min(n, high))
}

// inRange reports whether n is in the range low to high.
func inRange(n int, low int, high int) bool {
	return low <= n && n <= high
}

// allInRange reports whether all numbers are in the range low to high.
func allInRange(low int, high int, numbers ...int) bool {
	for _, n := range numbers {
		if !inRange(n, low, high) {
			return false
		}
	}
	return true
}

// isAscending reports whether each element of list is smaller than the next one.
func isAscending(list []int) bool {
	for i := 1; i < len(list); i++ {
		if list[i-1] >= list[i] {
			return false
		}
	}
	return true
}

// distance returns the magnitude of the difference of a and b.
func distance(a int, b int) int {
	return max(a-b, b-a)
}
