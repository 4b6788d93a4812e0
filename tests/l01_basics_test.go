package tests

import (
	"math"
	"slices"
	"strconv"
	"strings"
	"testing"

	"loop.example/g01012/impl"
)

func TestCodes(t *testing.T) {
	same(t, "codes", "0 1 2 3 4 5 6 7 8 9 10", impl.OK, impl.ErrInvalid, impl.ErrRange, impl.ErrNotFound, impl.ErrExists, impl.ErrFull, impl.ErrState, impl.ErrSyntax, impl.ErrFormat, impl.ErrClash, impl.ErrJam)
	same(t, "longest name", "12", impl.MaxName)
}

func TestCodeName(t *testing.T) {
	names := []string{"ok", "invalid", "range", "not-found", "exists", "full", "state", "syntax", "format", "clash", "jam"}
	for code, name := range names {
		if got := impl.CodeName(int64(code)); got != name {
			t.Errorf("CodeName(%d): got %q, want %q", code, got, name)
		}
	}
	for _, code := range []int64{-1, -10, 11, 12, 1 << 32, math.MinInt64, math.MaxInt64} {
		if got := impl.CodeName(code); got != "" {
			t.Errorf("CodeName(%d): got %q, want nothing", code, got)
		}
	}
}

func TestIsName(t *testing.T) {
	names := []string{"a", "z", "tray-3", "a-", "a--", "a0", "z9", "abcdefghijkl", "a-0123456789"}
	for _, s := range names {
		if !impl.IsName(s) {
			t.Errorf("IsName(%q): false", s)
		}
	}
	others := []string{"", "-", "-a", "0", "3a", "A", "aB", "a b", " a", "a ", "a_b", "a.b", "a\n", "a\x00", "abcdefghijklm", "a-01234567890", "é", "aé", "a\xff", "a\u0661", "\u0430", strings.Repeat("a", 1000)}
	for _, s := range others {
		if impl.IsName(s) {
			t.Errorf("IsName(%q): true", s)
		}
	}
}

func TestIsNameForEachByte(t *testing.T) {
	const letters = "abcdefghijklmnopqrstuvwxyz"
	for b := range 256 {
		c := string([]byte{byte(b)})
		first := strings.Contains(letters, c)
		further := strings.Contains(letters+"0123456789-", c)
		if impl.IsName(c) != first {
			t.Errorf("IsName(%q): got %v", c, !first)
		}
		for _, s := range []string{"a" + c, "a" + c + "a", "abcdefghijk" + c} {
			if impl.IsName(s) != further {
				t.Errorf("IsName(%q): got %v", s, !further)
			}
		}
	}
}

// edgeNumbers are numbers at the edges of the decimal forms and of the integers.
func edgeNumbers() []int64 {
	list := []int64{0, math.MinInt64, math.MinInt64 + 1, math.MaxInt64, math.MaxInt64 - 1}
	for power := int64(1); ; power *= 10 {
		for _, n := range []int64{power - 1, power, power + 1, 7 * (power / 10), -power + 1, -power, -power - 1} {
			list = append(list, n)
		}
		if power == 1000000000000000000 {
			return list
		}
	}
}

func TestDecimal(t *testing.T) {
	same(t, "decimals", "0 7 -7 10 -12 9223372036854775807 -9223372036854775808", impl.Decimal(0), impl.Decimal(7), impl.Decimal(-7), impl.Decimal(10), impl.Decimal(-12), impl.Decimal(math.MaxInt64), impl.Decimal(math.MinInt64))
	for _, n := range edgeNumbers() {
		if got, want := impl.Decimal(n), strconv.FormatInt(n, 10); got != want {
			t.Errorf("Decimal(%d): got %q", n, got)
		}
	}
}

func TestReadDecimalOfDecimals(t *testing.T) {
	for _, n := range edgeNumbers() {
		s := impl.Decimal(n)
		got, ok := impl.ReadDecimal(s)
		if len(strings.TrimPrefix(s, "-")) <= 18 {
			if !ok || got != n {
				t.Errorf("ReadDecimal(%q): got %d, %v", s, got, ok)
			}
		} else if ok || got != 0 {
			t.Errorf("ReadDecimal(%q), which has more than 18 digits: got %d, %v", s, got, ok)
		}
	}
	for n := int64(-1100); n <= 1100; n++ {
		if got, ok := impl.ReadDecimal(strconv.FormatInt(n, 10)); !ok || got != n {
			t.Errorf("ReadDecimal of %d: got %d, %v", n, got, ok)
		}
	}
}

func TestReadDecimalOfOtherTexts(t *testing.T) {
	texts := []string{
		"", "-", "--1", "+", "+0", "+5", "-+5", "-0", "-00", "00", "01", "-01", "007", "000000000000000000", "0000000000000000001",
		" ", " 1", "1 ", "- 1", "1 2", "\t1", "1\n", "1-", "1-2", "a", "1a", "a1", "0x10", "0b1", "1_000", "1e3", "1.0", ".5",
		"1000000000000000000", "-1000000000000000000", "9223372036854775807", "-9223372036854775808", "9223372036854775808", "18446744073709551617",
		"\u0661", "1\u0661", "\xff", "1\x00", strings.Repeat("9", 5000), "-" + strings.Repeat("1", 19),
	}
	for _, s := range texts {
		if n, ok := impl.ReadDecimal(s); ok || n != 0 {
			t.Errorf("ReadDecimal(%q): got %d, %v", s, n, ok)
		}
	}
	for b := range 256 {
		c := string([]byte{byte(b)})
		for _, s := range []string{c, "1" + c} {
			if _, ok := impl.ReadDecimal(s); ok != strings.Contains("0123456789", c) {
				t.Errorf("ReadDecimal(%q): got %v", s, ok)
			}
		}
	}
}

func TestSplitWords(t *testing.T) {
	for _, x := range []struct {
		text string
		want []string
	}{
		{"", nil},
		{" ", nil},
		{"     ", nil},
		{"a", []string{"a"}},
		{"sort 0 0-1 1", []string{"sort", "0", "0-1", "1"}},
		{" a", []string{"a"}},
		{"a ", []string{"a"}},
		{"   a   bc  d ", []string{"a", "bc", "d"}},
		{"b a b", []string{"b", "a", "b"}},
		{"a\tb\nc\vd\fe\rf", []string{"a\tb\nc\vd\fe\rf"}},
		{"\n \t", []string{"\n", "\t"}},
		{"a\u00a0b \u2003 \u0085c", []string{"a\u00a0b", "\u2003", "\u0085c"}},
		{"\xff \xe2\x82 \xe2 x\x80\x00", []string{"\xff", "\xe2\x82", "\xe2", "x\x80\x00"}},
		{"\xa0\x20\x85", []string{"\xa0", "\x85"}},
	} {
		if got := impl.SplitWords(x.text); !slices.Equal(got, x.want) {
			t.Errorf("SplitWords(%q): got %q, want %q", x.text, got, x.want)
		}
	}
}

// TestSplitWordsForShortTexts holds the words of all short texts of a few bytes against those between single blanks.
func TestSplitWordsForShortTexts(t *testing.T) {
	texts := []string{""}
	for range 6 {
		for _, s := range texts {
			for _, c := range []string{" ", "a", "\xe2"} {
				texts = append(texts, s+c)
			}
		}
		slices.Sort(texts)
		texts = slices.Compact(texts)
	}
	for _, s := range texts {
		want := slices.DeleteFunc(strings.Split(s, " "), func(part string) bool { return part == "" })
		if got := impl.SplitWords(s); !slices.Equal(got, want) {
			t.Errorf("SplitWords(%q): got %q, want %q", s, got, want)
		}
	}
}
