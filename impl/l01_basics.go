package impl

import (
	"strconv"
	"strings"
)

// Codes, whose values follow one another from 0 on.
const (
	OK = iota
	ErrInvalid
	ErrRange
	ErrNotFound
	ErrExists
	ErrFull
	ErrState
	ErrSyntax
	ErrFormat
	ErrClash
	ErrJam
)

// MaxName is the greatest length of a name.
const MaxName = 12

// maxRead is the greatest number of 18 digits.
const maxRead = 999999999999999999

// codeNames are the names of the codes, in the order of their values.
var codeNames = [...]string{
	OK:          "ok",
	ErrInvalid:  "invalid",
	ErrRange:    "range",
	ErrNotFound: "not-found",
	ErrExists:   "exists",
	ErrFull:     "full",
	ErrState:    "state",
	ErrSyntax:   "syntax",
	ErrFormat:   "format",
	ErrClash:    "clash",
	ErrJam:      "jam",
}

// CodeName returns the name of a code; the empty string for other numbers.
func CodeName(code int64) string {
	if code < 0 || code >= int64(len(codeNames)) {
		return ""
	}
	return codeNames[code]
}

// IsName reports whether s is a name.
func IsName(s string) bool {
	if s == "" || len(s) > MaxName {
		return false
	}
	for place, r := range s {
		if !isNameRune(r, place == 0) {
			return false
		}
	}
	return true
}

// isNameRune reports whether a name may have r, at its beginning or behind it.
func isNameRune(r rune, first bool) bool {
	if 'a' <= r && r <= 'z' {
		return true
	}
	return !first && (r == '-' || '0' <= r && r <= '9')
}

// Decimal returns the decimal form of a number.
func Decimal(n int64) string {
	var b strings.Builder
	if n < 0 {
		b.WriteByte('-')
	}
	b.WriteString(strconv.FormatUint(absolute(n), 10))
	return b.String()
}

// absolute returns the absolute value of n; it is unsigned since that of the least int64 is no int64.
func absolute(n int64) uint64 {
	if n < 0 {
		return -uint64(n)
	}
	return uint64(n)
}

// ReadDecimal returns the number of at most 18 digits with a decimal form.
func ReadDecimal(s string) (int64, bool) {
	n, err := strconv.ParseInt(s, 10, 64)
	if err != nil || n < -maxRead || n > maxRead {
		return 0, false
	}
	// ParseInt also takes a plus sign, leading zeros and "-0".
	if Decimal(n) != s {
		return 0, false
	}
	return n, true
}

// SplitWords returns the parts of a text without blanks.
func SplitWords(s string) []string {
	return strings.FieldsFunc(s, isBlank)
}

// isBlank reports whether r is a blank; other white space separates no words.
func isBlank(r rune) bool { return r == ' ' }
