package impl

import (
	"strconv"
	"strings"
)

// Codes.
const (
	OK = iota
	ErrInvalid
	ErrRange
	ErrNotFound
	ErrExists
	ErrFull
	ErrState
	ErrSyntax
	ErrFormat
	ErrClash
	ErrLoose
)

// Limits.
const (
	MaxName    = 12
	maxDecimal = 999999999999999999
)

// CodeName returns the name of a code.
func CodeName(code int64) string {
	names := [...]string{
		"ok", "invalid", "range", "not-found", "exists", "full",
		"state", "syntax", "format", "clash", "loose",
	}
	if !isBetween(code, 0, int64(len(names))-1) {
		return ""
	}
	return names[code]
}

// IsName reports whether s is a name.
func IsName(s string) bool {
	if s == "" || len(s) > MaxName {
		return false
	}
	for i, r := range s {
		if !isSmallLetter(r) && (i == 0 || !isDigit(r) && r != '-') {
			return false
		}
	}
	return true
}

// Decimal returns the decimal form of a number.
func Decimal(n int64) string { return strconv.FormatInt(n, 10) }

// ReadDecimal returns the number with a decimal form.
func ReadDecimal(s string) (int64, bool) {
	n, err := strconv.ParseInt(s, 10, 64)
	if err != nil || !isBetween(n, -maxDecimal, maxDecimal) {
		return 0, false
	}
	// ParseInt takes a plus sign, leading zeros and -0 as well, which Decimal never returns.
	if Decimal(n) != s {
		return 0, false
	}
	return n, true
}

// SplitWords returns the parts of a text without blanks.
func SplitWords(s string) []string {
	var words []string
	var word strings.Builder
	// Bytes, not runes: a word keeps bytes that are no UTF-8.
	for i := range len(s) + 1 {
		if i < len(s) && s[i] != ' ' {
			word.WriteByte(s[i])
		} else if word.Len() > 0 {
			words = append(words, word.String())
			word.Reset()
		}
	}
	return words
}

func isBetween(n, low, high int64) bool { return low <= n && n <= high }

// areIncreasing reports whether numbers are strictly increasing ones from low to high.
func areIncreasing(numbers []int64, low, high int64) bool {
	for _, n := range numbers {
		if !isBetween(n, low, high) {
			return false
		}
		low = n + 1
	}
	return true
}

// areValid reports whether list has at most so many values and all of them are valid.
func areValid[T any](list []T, most int, isValid func(T) bool) bool {
	if len(list) > most {
		return false
	}
	for _, x := range list {
		if !isValid(x) {
			return false
		}
	}
	return true
}

// indicesOf returns the indices of count values in ascending order.
func indicesOf(count int) []int64 {
	indices := make([]int64, count)
	for i := range indices {
		indices[i] = int64(i)
	}
	return indices
}

func isSmallLetter(r rune) bool { return 'a' <= r && r <= 'z' }

func isDigit(r rune) bool { return '0' <= r && r <= '9' }
