package impl

import (
	"strconv"
	"strings"
)

// Codes, in the order of their names in CodeName.
const (
	OK = iota
	ErrInvalid
	ErrRange
	ErrNotFound
	ErrExists
	ErrFull
	ErrState
	ErrSyntax
	ErrFormat
	ErrClash
	ErrDark
)

// MaxName is the greatest length of a name.
const MaxName = 12

// maxRead is the greatest number of 18 digits.
const maxRead = 999999999999999999

var codeNames = [...]string{"ok", "invalid", "range", "not-found", "exists", "full", "state", "syntax", "format", "clash", "dark"}

// CodeName returns the name of a code, the empty string for any other number.
func CodeName(code int64) string {
	if code < 0 || code >= int64(len(codeNames)) {
		return ""
	}
	return codeNames[code]
}

// IsName reports whether s is a name.
func IsName(s string) bool {
	if len(s) < 1 || len(s) > MaxName {
		return false
	}
	for i, r := range s {
		if !isSmallLetter(r) && (i == 0 || !isDigit(r) && r != '-') {
			return false
		}
	}
	return true
}

func isSmallLetter(r rune) bool { return 'a' <= r && r <= 'z' }

func isDigit(r rune) bool { return '0' <= r && r <= '9' }

// Decimal returns the decimal form of a number.
func Decimal(n int64) string {
	var text strings.Builder
	size := uint64(n)
	if n < 0 {
		text.WriteRune('-')
		// The least int64 has no positive counterpart, but a uint64 holds its size.
		size = -size
	}
	writeDigits(&text, size)
	return text.String()
}

func writeDigits(text *strings.Builder, n uint64) {
	if n > 9 {
		writeDigits(text, n/10)
	}
	text.WriteRune('0' + rune(n%10))
}

// ReadDecimal returns the number of at most 18 digits with the decimal form s, if there is one.
func ReadDecimal(s string) (int64, bool) {
	n, err := strconv.ParseInt(s, 10, 64)
	// ParseInt also reads forms that Decimal never writes, such as +1, 01 and -0.
	if err != nil || n < -maxRead || n > maxRead || Decimal(n) != s {
		return 0, false
	}
	return n, true
}

// SplitWords returns the longest parts of a text without blanks, in order.
func SplitWords(s string) []string {
	return strings.FieldsFunc(s, isBlank)
}

// isBlank is true of byte 32 only: other white space belongs to words.
func isBlank(r rune) bool { return r == ' ' }
