package tests

import (
	"fmt"
	"math"
	"slices"
	"strings"
	"sync"
	"testing"

	"loop.example/g01012/impl"
)

// A letter is a character with its holes.
type letter struct {
	char  byte
	holes int64
}

// holesIn returns the number of holes in these rows.
func holesIn(rows ...int64) int64 {
	mask := int64(0)
	for _, row := range rows {
		mask |= 1 << slices.Index(rowsFromAbove, row)
	}
	return mask
}

// alphabet are all characters, in the order of their ranks. They are listed only once, since the tests ask for them very often.
var alphabet = sync.OnceValue(lettersByRank)

func lettersByRank() []letter {
	list := []letter{{' ', holesIn()}, {'&', holesIn(12)}}
	for k := range 9 {
		list = append(list, letter{"ABCDEFGHI"[k], holesIn(12, int64(k)+1)})
	}
	list = append(list, letter{'-', holesIn(11)})
	for k := range 9 {
		list = append(list, letter{"JKLMNOPQR"[k], holesIn(11, int64(k)+1)})
	}
	for k := range 9 {
		list = append(list, letter{"/STUVWXYZ"[k], holesIn(0, int64(k)+1)})
	}
	for k := range 10 {
		list = append(list, letter{"0123456789"[k], holesIn(int64(k))})
	}
	return list
}

// rankOfHoles returns the rank of the character of a column; -1 if it has none.
func rankOfHoles(mask int64) int {
	return slices.IndexFunc(alphabet(), func(x letter) bool { return x.holes == mask })
}

// rankOfByte returns the rank of a character; -1 if it is none.
func rankOfByte(c byte) int {
	return slices.IndexFunc(alphabet(), func(x letter) bool { return x.char == c })
}

// cardOf returns the card with the holes of a text.
func cardOf(text string) impl.Card {
	c := card()
	for _, char := range []byte(text) {
		c.Holes = append(c.Holes, alphabet()[rankOfByte(char)].holes)
	}
	return c
}

// allChars is a text with all characters.
func allChars() string {
	text := ""
	for _, x := range alphabet() {
		text += string(x.char)
	}
	return text
}

// illegalMasks are holes that stand for no character.
func illegalMasks() []int64 {
	return []int64{3, 5, 6, 7, 11, 13, 14, 24, 25, 26, 28, 2051, 3072, impl.AllRows - 7, impl.AllRows}
}

func TestCodeOf(t *testing.T) {
	same(t, "holes of some characters", "0 1 2 4 8 2048 9 2049 10 2050 12 20 2052", alphabet()[0].holes, cardOf("&").Holes[0], cardOf("-").Holes[0], cardOf("0").Holes[0], cardOf("1").Holes[0], cardOf("9").Holes[0], cardOf("A").Holes[0], cardOf("I").Holes[0], cardOf("J").Holes[0], cardOf("R").Holes[0], cardOf("/").Holes[0], cardOf("S").Holes[0], cardOf("Z").Holes[0])
	for b := range 256 {
		mask, ok := impl.CodeOf(byte(b))
		rank := rankOfByte(byte(b))
		if rank < 0 {
			if ok || mask != 0 {
				t.Errorf("CodeOf(%d), which is no character: got %d, %v", b, mask, ok)
			}
			continue
		}
		if want := alphabet()[rank].holes; !ok || mask != want {
			t.Errorf("CodeOf(%d): got %d, %v, want %d", b, mask, ok, want)
		}
		// P3: the holes of a character stand for it.
		if back, ok := impl.CharOf(mask); !ok || back != byte(b) {
			t.Errorf("CharOf of the holes of %d: got %d, %v", b, back, ok)
		}
	}
}

func TestCharOf(t *testing.T) {
	found := 0
	for mask := int64(-1); mask <= impl.AllRows+1; mask++ {
		c, ok := impl.CharOf(mask)
		rank := rankOfHoles(mask)
		if rank < 0 {
			if ok || c != 0 {
				t.Errorf("CharOf(%d), which stands for none: got %q, %v", mask, c, ok)
			}
			continue
		}
		found++
		if want := alphabet()[rank].char; !ok || c != want {
			t.Errorf("CharOf(%d): got %q, %v, want %q", mask, c, ok, want)
		}
		// P3: a character has the holes that stand for it.
		if back, ok := impl.CodeOf(c); !ok || back != mask {
			t.Errorf("CodeOf of the character of %d: got %d, %v", mask, back, ok)
		}
	}
	same(t, "holes that stand for a character", "40", found)
	// The last numbers have the bits of a character below others.
	for _, mask := range []int64{math.MinInt64, math.MinInt64 + 9, math.MinInt64 + 1, -2, -9, -4096, 4096 + 9, 4096, 8192, 1<<32 + 9, 1 << 62, math.MaxInt64} {
		if c, ok := impl.CharOf(mask); ok || c != 0 {
			t.Errorf("CharOf(%d): got %q, %v", mask, c, ok)
		}
	}
	for _, mask := range illegalMasks() {
		if c, ok := impl.CharOf(mask); ok || c != 0 {
			t.Errorf("CharOf(%d): got %q, %v", mask, c, ok)
		}
	}
}

func TestRankOf(t *testing.T) {
	const order = " &ABCDEFGHI-JKLMNOPQR/STUVWXYZ0123456789"
	same(t, "the order of the ranks", order+" 40", allChars(), len(order))
	seen := map[int64]int{}
	for b := range 256 {
		rank, ok := impl.RankOf(byte(b))
		want := strings.IndexByte(order, byte(b))
		if want < 0 {
			if ok || rank != 0 {
				t.Errorf("RankOf(%d), which is no character: got %d, %v", b, rank, ok)
			}
			continue
		}
		if !ok || rank != int64(want) {
			t.Errorf("RankOf(%d): got %d, %v, want %d", b, rank, ok, want)
		}
		seen[rank]++
	}
	for rank := range int64(len(order)) {
		if seen[rank] != 1 {
			t.Errorf("the rank %d: %d characters", rank, seen[rank])
		}
	}
}

func TestPunchText(t *testing.T) {
	for _, x := range []struct {
		text  string
		width int64
		want  []int64
	}{
		{"A-1", 4, []int64{9, 2, 8, 0}},
		{"A-1", 3, []int64{9, 2, 8}},
		{"", 1, []int64{0}},
		{"", 3, []int64{0, 0, 0}},
		{" ", 1, []int64{0}},
		{"Z", 1, []int64{2052}},
		{" 0", 3, []int64{0, 4, 0}},
		{"&/ 9", 5, []int64{1, 12, 0, 2048, 0}},
	} {
		c, code := impl.PunchText(x.text, x.width)
		if code != impl.OK || !slices.Equal(c.Holes, x.want) {
			t.Errorf("PunchText(%q, %d): got %v, %d, want %v", x.text, x.width, c, code, x.want)
		}
	}
}

// TestReadTextOfPunchText checks P3 for texts of all lengths, on cards of all widths.
func TestReadTextOfPunchText(t *testing.T) {
	for begin := range len(allChars()) - impl.MaxColumns + 1 {
		for length := range impl.MaxColumns + 1 {
			text := allChars()[begin : begin+length]
			for width := int64(1); width <= impl.MaxColumns; width++ {
				c, code := impl.PunchText(text, width)
				if int64(length) > width {
					if code != impl.ErrFull || len(c.Holes) != 0 {
						t.Errorf("PunchText(%q, %d), too long: got %v, %d", text, width, c, code)
					}
					continue
				}
				whole := text + strings.Repeat(" ", int(width)-length)
				if code != impl.OK || !impl.SameCard(c, cardOf(whole)) {
					t.Errorf("PunchText(%q, %d): got %v, %d", text, width, c, code)
				}
				if read, code := impl.ReadText(c); code != impl.OK || read != whole {
					t.Errorf("ReadText of PunchText(%q, %d): got %q, %d", text, width, read, code)
				}
			}
		}
	}
}

func TestErrorsOfPunchText(t *testing.T) {
	for _, width := range []int64{0, -1, -20, impl.MaxColumns + 1, 1 << 40, math.MinInt64, math.MaxInt64} {
		// ErrRange is told ahead of ErrFull and ErrSyntax.
		for _, text := range []string{"", "A", "a", strings.Repeat("A", 21), strings.Repeat("a", 30)} {
			fails(t, impl.ErrRange, impl.PunchText, text, width)
		}
	}
	for _, x := range []struct {
		text  string
		width int64
	}{
		{"AB", 1}, {"  ", 1}, {"ABCD", 3}, {strings.Repeat("A", 21), impl.MaxColumns}, {strings.Repeat(" ", 5000), impl.MaxColumns},
		// ErrFull is told ahead of ErrSyntax, and bytes count, not runes.
		{"ab", 1}, {"Aa", 1}, {"é", 1}, {"\xff\xff\xff", 2}, {"éé", 3}, {strings.Repeat("a", 21), impl.MaxColumns},
	} {
		fails(t, impl.ErrFull, impl.PunchText, x.text, x.width)
	}
	for b := range 256 {
		if rankOfByte(byte(b)) >= 0 {
			continue
		}
		c := string([]byte{byte(b)})
		for _, text := range []string{c, c + "A", "A" + c, "A" + c + "1", strings.Repeat("Z", impl.MaxColumns-1) + c} {
			fails(t, impl.ErrSyntax, impl.PunchText, text, int64(len(text)))
			fails(t, impl.ErrSyntax, impl.PunchText, text, int64(impl.MaxColumns))
		}
	}
	// These runes have the number of a character in their last byte, or in their last bits.
	for _, text := range []string{"\u0141", "\u0130", "\u2041", "\U00010041", "\u0120", "A\u0139", "\xc1", "\xc0\xa0", "\u00a0", "\uff21", "\ufffd"} {
		fails(t, impl.ErrSyntax, impl.PunchText, text, int64(impl.MaxColumns))
	}
}

func TestReadText(t *testing.T) {
	text, code := impl.ReadText(card(9, 2, 8, 0))
	same(t, "a card", "A-1  0", text, code)
	text, code = impl.ReadText(wide(impl.MaxColumns, 0))
	same(t, "a blank card", strings.Repeat(" ", impl.MaxColumns)+" 0", text, code)
	for mask := int64(0); mask <= impl.AllRows; mask++ {
		rank := rankOfHoles(mask)
		for column := range 3 {
			c := card(9, 9, 9)
			c.Holes[column] = mask
			if rank < 0 {
				fails(t, impl.ErrFormat, impl.ReadText, c)
				continue
			}
			want := []byte("AAA")
			want[column] = alphabet()[rank].char
			if text, code := impl.ReadText(c); code != impl.OK || text != string(want) {
				t.Errorf("ReadText(%v): got %q, %d", c, text, code)
			}
		}
	}
	for _, c := range wrongCards() {
		fails(t, impl.ErrInvalid, impl.ReadText, c)
	}
	// A card that is not valid is told ahead of a column without a character.
	fails(t, impl.ErrInvalid, impl.ReadText, card(3, -1))
	fails(t, impl.ErrInvalid, impl.ReadText, wide(impl.MaxColumns+1, 3))
}

func TestIllegalColumns(t *testing.T) {
	for _, x := range []struct {
		card impl.Card
		want string
	}{
		{card(9, 3, 0), "[1] 0"},
		{card(0), "[] 0"},
		{card(6), "[0] 0"},
		{cardOf("A-1 Z"), "[] 0"},
		{wide(impl.MaxColumns, 9), "[] 0"},
		{card(24, 0, 4095, 2, 7), "[0 2 4] 0"},
		{wide(impl.MaxColumns, 3), "[0 1 2 3 4 5 6 7 8 9 10 11 12 13 14 15 16 17 18 19] 0"},
	} {
		got, code := impl.IllegalColumns(x.card)
		same(t, fmt.Sprintf("IllegalColumns(%v)", x.card), x.want, got, code)
	}
	for mask := int64(0); mask <= impl.AllRows; mask++ {
		got, code := impl.IllegalColumns(card(0, mask))
		want := []int64{1}
		if rankOfHoles(mask) >= 0 {
			want = nil
		}
		if code != impl.OK || !slices.Equal(got, want) {
			t.Errorf("IllegalColumns of the holes %d: got %v, %d", mask, got, code)
		}
	}
	for _, c := range append(wrongCards(), card(3, -1)) {
		fails(t, impl.ErrInvalid, impl.IllegalColumns, c)
	}
}

// someNumbers are numbers that a card can have, with those at the edges of their digits.
func someNumbers() []int64 {
	list := []int64{0, 12, -12, 10, -10, 305, -305, 907060504030, -123456789012, impl.MaxCardNumber, -impl.MaxCardNumber}
	for power := int64(1); power < impl.MaxCardNumber; power *= 10 {
		list = append(list, power, power-1, 1-power, -power, -power-1)
	}
	return list
}

// numberHoles are the columns of a number with as many digits at least.
func numberHoles(n int64, digits int) []int64 {
	text := fmt.Sprintf("%0*d", digits, max(n, -n))
	holes := cardOf(text).Holes
	if n < 0 {
		holes[len(holes)-1] |= holesIn(11)
	}
	return holes
}

func TestPunchNumber(t *testing.T) {
	for _, x := range []struct {
		card  impl.Card
		field impl.Field
		n     int64
		want  []int64
	}{
		{card(0, 0, 0), impl.Field{From: 0, To: 3}, -12, []int64{4, 8, 18}},
		{card(0, 0, 0), impl.Field{From: 0, To: 3}, 12, []int64{4, 8, 16}},
		{card(9, 3, 4095), impl.Field{From: 1, To: 2}, 0, []int64{9, 4, 4095}},
		{card(9, 3, 4095), impl.Field{From: 1, To: 2}, -7, []int64{9, 514, 4095}},
		{card(4095, 2, 5), impl.Field{From: 0, To: 2}, -10, []int64{8, 6, 5}},
		{card(6), impl.Field{From: 0, To: 1}, 9, []int64{2048}},
		{card(7, 7, 7), impl.Field{From: 0, To: 3}, 0, []int64{4, 4, 4}},
	} {
		c, code := impl.PunchNumber(x.card, x.field, x.n)
		if code != impl.OK || !slices.Equal(c.Holes, x.want) {
			t.Errorf("PunchNumber(%v, %v, %d): got %v, %d, want %v", x.card, x.field, x.n, c, code, x.want)
		}
	}
}

// TestNumberInOfPunchNumber checks P3 for numbers in all fields of cards: the number is read again, and the other columns stay.
func TestNumberInOfPunchNumber(t *testing.T) {
	for _, c := range []impl.Card{card(4095), card(9, 6, 0, 4095), wide(13, 3), wide(impl.MaxColumns, impl.AllRows)} {
		width := len(c.Holes)
		for from := range width {
			for to := from + 1; to <= width; to++ {
				for _, n := range someNumbers() {
					checkNumber(t, c, impl.Field{From: int64(from), To: int64(to)}, n)
				}
			}
		}
	}
}

func checkNumber(t *testing.T, c impl.Card, f impl.Field, n int64) {
	t.Helper()
	room := int(f.To - f.From)
	holes := numberHoles(n, room)
	if len(holes) > room {
		fails(t, impl.ErrFull, impl.PunchNumber, c, f, n)
		return
	}
	want := card(slices.Concat(c.Holes[:f.From], holes, c.Holes[f.To:])...)
	punched, code := impl.PunchNumber(c, f, n)
	if code != impl.OK || !impl.SameCard(punched, want) {
		t.Errorf("PunchNumber(%v, %v, %d): got %v, %d", c, f, n, punched, code)
		return
	}
	if room > 12 {
		fails(t, impl.ErrFull, impl.NumberIn, punched, f)
		return
	}
	if got, code := impl.NumberIn(punched, f); code != impl.OK || got != n {
		t.Errorf("NumberIn of PunchNumber(%v, %v, %d): got %d, %d", c, f, n, got, code)
	}
}

// wrongFields are fields that cards with so many columns do not have.
func wrongFields(width int64) []impl.Field {
	return []impl.Field{
		{}, {From: 1, To: 1}, {From: 1, To: 0}, {From: -1, To: 1}, {From: -1, To: 0}, {From: 0, To: width + 1}, {From: width, To: width + 1}, {From: width, To: width}, {From: width + 1, To: width},
		{From: 0, To: -1}, {From: math.MinInt64, To: 1}, {From: 0, To: math.MaxInt64}, {From: math.MaxInt64, To: math.MinInt64}, {From: math.MinInt64, To: math.MaxInt64},
	}
}

func TestErrorsOfPunchNumber(t *testing.T) {
	same(t, "the greatest number", "999999999999", int64(impl.MaxCardNumber))
	first := impl.Field{From: 0, To: 1}
	beyond := []int64{impl.MaxCardNumber + 1, -impl.MaxCardNumber - 1, math.MinInt64, math.MinInt64 + 1, math.MaxInt64}
	for _, c := range someCards() {
		width := int64(len(c.Holes))
		for _, n := range beyond {
			// ErrRange is told ahead of ErrFull.
			fails(t, impl.ErrRange, impl.PunchNumber, c, first, n)
			fails(t, impl.ErrRange, impl.PunchNumber, c, impl.Field{From: 0, To: width}, n)
		}
		for _, f := range wrongFields(width) {
			for _, n := range append(beyond, 0, 1, -1, 12345, impl.MaxCardNumber) {
				fails(t, impl.ErrRange, impl.PunchNumber, c, f, n)
			}
		}
		for _, n := range []int64{10, -10, 99, impl.MaxCardNumber, -impl.MaxCardNumber} {
			fails(t, impl.ErrFull, impl.PunchNumber, c, first, n)
		}
	}
	for _, c := range wrongCards() {
		for _, n := range append(beyond, 0, 10) {
			fails(t, impl.ErrInvalid, impl.PunchNumber, c, first, n)
			fails(t, impl.ErrInvalid, impl.PunchNumber, c, impl.Field{From: -1, To: 50}, n)
		}
	}
	// The columns outside the field must be valid, too.
	fails(t, impl.ErrInvalid, impl.PunchNumber, card(0, 4096), first, int64(1))
	// A field of more than 12 columns can be punched.
	c, code := impl.PunchNumber(wide(impl.MaxColumns, 0), impl.Field{From: 0, To: impl.MaxColumns}, -1)
	same(t, "the widest field", "{[4 4 4 4 4 4 4 4 4 4 4 4 4 4 4 4 4 4 4 10]} 0", c, code)
}

func TestNumberIn(t *testing.T) {
	for _, x := range []struct {
		holes []int64
		want  string
	}{
		{[]int64{4, 8, 18}, "-12 0"},
		{[]int64{0, 8, 16}, "12 0"},
		// Columns without holes before the first digit.
		{[]int64{0, 0, 8}, "1 0"},
		{[]int64{0, 4, 8}, "1 0"},
		{[]int64{0, 0, 4}, "0 0"},
		{[]int64{0, 8, 6}, "-10 0"},
		{[]int64{0, 0, 10}, "-1 0"},
		{[]int64{0}, "0 0"},
		{[]int64{0, 0, 0}, "0 0"},
		// Columns without holes between digits, and behind them.
		{[]int64{8, 0, 8}, "0 8"},
		{[]int64{4, 0, 8}, "0 8"},
		{[]int64{8, 0, 10}, "0 8"},
		{[]int64{8, 8, 0}, "0 8"},
		{[]int64{0, 8, 0}, "0 8"},
		{[]int64{4, 0, 0}, "0 8"},
		// The row 11 without a digit, with 0, and in other columns.
		{[]int64{2}, "0 8"},
		{[]int64{0, 2}, "0 8"},
		{[]int64{8, 2}, "0 8"},
		{[]int64{4, 2}, "0 8"},
		{[]int64{6}, "0 8"},
		{[]int64{4, 4, 6}, "0 8"},
		{[]int64{0, 0, 6}, "0 8"},
		{[]int64{10, 8}, "0 8"},
		{[]int64{2, 8}, "0 8"},
		{[]int64{0, 2, 8}, "0 8"},
		{[]int64{10, 10}, "0 8"},
		{[]int64{6, 8}, "0 8"},
		{[]int64{2, 2}, "0 8"},
		// Other characters, and columns without one.
		{[]int64{9}, "0 8"},
		{[]int64{1}, "0 8"},
		{[]int64{12}, "0 8"},
		{[]int64{8, 9}, "0 8"},
		{[]int64{9, 8}, "0 8"},
		{[]int64{3}, "0 8"},
		{[]int64{11}, "0 8"},
		{[]int64{24}, "0 8"},
		{[]int64{26}, "0 8"},
		{[]int64{4095}, "0 8"},
		{[]int64{14}, "0 8"},
	} {
		n, code := impl.NumberIn(card(x.holes...), impl.Field{From: 0, To: int64(len(x.holes))})
		same(t, fmt.Sprintf("NumberIn of %v", x.holes), x.want, n, code)
		// The columns around the field do not matter.
		wider := slices.Concat([]int64{4095, 16}, x.holes, []int64{6, 4095})
		n, code = impl.NumberIn(card(wider...), impl.Field{From: 2, To: int64(len(wider)) - 2})
		same(t, fmt.Sprintf("NumberIn of the middle of %v", wider), x.want, n, code)
	}
}

// readable are the numbers of all columns that have one, for at most three of them.
func readable() map[string]int64 {
	all := map[string]int64{}
	for width := 1; width <= 3; width++ {
		all[fmt.Sprint(make([]int64, width))] = 0
		for digits := 1; digits <= width; digits++ {
			blanks := make([]int64, width-digits)
			for n := int64(-999); n <= 999; n++ {
				if holes := numberHoles(n, digits); len(holes) == digits {
					all[fmt.Sprint(slices.Concat(blanks, holes))] = n
				}
			}
		}
	}
	return all
}

// TestNumberInForNarrowFields holds the numbers of all columns of some holes against all that can be punched.
func TestNumberInForNarrowFields(t *testing.T) {
	all := readable()
	masks := append([]int64{0, 1, 2, 4, 8, 2048, 6, 10, 2050, 5, 9, 12, 2052}, illegalMasks()...)
	fields := [][]int64{{}}
	for range 3 {
		var wider [][]int64
		for _, holes := range fields {
			for _, mask := range masks {
				wider = append(wider, append(slices.Clone(holes), mask))
			}
		}
		for _, holes := range wider {
			want, ok := all[fmt.Sprint(holes)]
			f := impl.Field{From: 0, To: int64(len(holes))}
			if !ok {
				fails(t, impl.ErrFormat, impl.NumberIn, card(holes...), f)
			} else if n, code := impl.NumberIn(card(holes...), f); code != impl.OK || n != want {
				t.Errorf("NumberIn of %v: got %d, %d, want %d", holes, n, code, want)
			}
		}
		fields = wider
	}
	for mask := int64(0); mask <= impl.AllRows; mask++ {
		want, ok := all[fmt.Sprint([]int64{mask})]
		n, code := impl.NumberIn(card(mask), impl.Field{From: 0, To: 1})
		if n != want || (code == impl.OK) != ok || !ok && code != impl.ErrFormat {
			t.Errorf("NumberIn of the holes %d: got %d, %d", mask, n, code)
		}
	}
}

func TestNumberInOfWideFields(t *testing.T) {
	nines := impl.Card{Holes: slices.Repeat([]int64{2048}, impl.MaxColumns)}
	for from := range int64(impl.MaxColumns) {
		for to := from + 1; to <= impl.MaxColumns; to++ {
			f := impl.Field{From: from, To: to}
			if to-from > 12 {
				// ErrFull is told ahead of ErrFormat.
				for _, c := range []impl.Card{nines, wide(impl.MaxColumns, 0), wide(impl.MaxColumns, 3), cardOf(strings.Repeat("Z", 20))} {
					fails(t, impl.ErrFull, impl.NumberIn, c, f)
				}
				continue
			}
			want := strings.Repeat("9", int(to-from)) + " 0"
			n, code := impl.NumberIn(nines, f)
			same(t, fmt.Sprintf("nines in %v", f), want, n, code)
			n, code = impl.NumberIn(wide(impl.MaxColumns, 0), f)
			same(t, fmt.Sprintf("blanks in %v", f), "0 0", n, code)
		}
	}
	n, code := impl.NumberIn(cardOf("12345678901K"), impl.Field{From: 0, To: 12})
	same(t, "twelve columns with a sign", "-123456789012 0", n, code)
}

func TestIsBlankField(t *testing.T) {
	c := card(0, 8, 0, 0, 4095, 0)
	for from := range int64(6) {
		for to := from + 1; to <= 6; to++ {
			blank, code := impl.IsBlankField(c, impl.Field{From: from, To: to})
			want := !(from <= 1 && to > 1 || from <= 4 && to > 4)
			same(t, fmt.Sprintf("IsBlankField %d-%d", from, to), fmt.Sprint(want, " 0"), blank, code)
		}
	}
	for mask := int64(0); mask <= impl.AllRows; mask++ {
		blank, code := impl.IsBlankField(card(mask), impl.Field{From: 0, To: 1})
		if code != impl.OK || blank != (mask == 0) {
			t.Errorf("IsBlankField of the holes %d: got %v, %d", mask, blank, code)
		}
	}
	blank, code := impl.IsBlankField(wide(impl.MaxColumns, 0), impl.Field{From: 0, To: impl.MaxColumns})
	same(t, "a blank card", "true 0", blank, code)
}

// TestErrorsOfFields checks ErrInvalid and ErrRange, in this order, of the functions with a card and a field.
func TestErrorsOfFields(t *testing.T) {
	for _, f := range []any{impl.NumberIn, impl.IsBlankField} {
		for _, c := range append(someCards(), wide(impl.MaxColumns, 3), card(3)) {
			for _, x := range wrongFields(int64(len(c.Holes))) {
				fails(t, impl.ErrRange, f, c, x)
			}
		}
		for _, c := range append(wrongCards(), card(0, 4096)) {
			fails(t, impl.ErrInvalid, f, c, impl.Field{From: 0, To: 1})
			fails(t, impl.ErrInvalid, f, c, impl.Field{From: 0, To: 13})
			for _, x := range wrongFields(int64(len(c.Holes))) {
				fails(t, impl.ErrInvalid, f, c, x)
			}
		}
	}
}

// compared returns the order of the characters in the first of the columns in which two texts differ.
func compared(a, b string) int64 {
	for k := range a {
		if one, two := rankOfByte(a[k]), rankOfByte(b[k]); one < two {
			return -1
		} else if one > two {
			return 1
		}
	}
	return 0
}

func TestCompareFields(t *testing.T) {
	for _, x := range []struct {
		a, b string
		from int64
		to   int64
		want int64
	}{
		{"A1", "AZ", 0, 2, 1}, {"AZ", "A1", 0, 2, -1},
		{"ABC", "ABC", 0, 3, 0}, {"ABC", "XBY", 1, 2, 0},
		{"ABC", "BBC", 0, 3, -1}, {"ABC", "ABD", 0, 3, -1},
		{"AZ", "BA", 0, 2, -1}, {"BA", "AZ", 0, 2, 1}, {"BA", "AZ", 1, 2, -1},
		{" ", "&", 0, 1, -1}, {"I", "-", 0, 1, -1}, {"/", "R", 0, 1, 1}, {"0", "Z", 0, 1, 1}, {"9", "0", 0, 1, 1},
		// Cards of different width.
		{"ABCD", "AB", 0, 2, 0}, {"A", "AB", 0, 1, 0}, {"ABZ", "AC", 1, 2, -1},
	} {
		order, code := impl.CompareFields(cardOf(x.a), cardOf(x.b), impl.Field{From: x.from, To: x.to})
		same(t, fmt.Sprintf("%q and %q, %d-%d", x.a, x.b, x.from, x.to), fmt.Sprint(x.want, " 0"), order, code)
	}
}

// TestCompareFieldsForShortTexts holds the order of all texts of one character, and of some of three, against that of ranks.
func TestCompareFieldsForShortTexts(t *testing.T) {
	texts := strings.Split(allChars(), "")
	for _, one := range " AZ0" {
		for _, two := range " AZ0" {
			for _, three := range "&-9" {
				texts = append(texts, string([]rune{one, two, three}))
			}
		}
	}
	for _, a := range texts {
		for _, b := range texts {
			if len(a) != len(b) {
				continue
			}
			for from := range len(a) {
				for to := from + 1; to <= len(a); to++ {
					order, code := impl.CompareFields(cardOf(a), cardOf(b), impl.Field{From: int64(from), To: int64(to)})
					if want := compared(a[from:to], b[from:to]); code != impl.OK || order != want {
						t.Errorf("CompareFields of %q and %q, %d-%d: got %d, %d, want %d", a, b, from, to, order, code, want)
					}
				}
			}
		}
	}
}

func TestErrorsOfCompareFields(t *testing.T) {
	plain, all := card(9, 9, 17), impl.Field{From: 0, To: 3}
	for _, mask := range illegalMasks() {
		// The second card is equal, less or greater in the column 1: each place is before, at or behind a difference.
		for _, b := range []impl.Card{card(9, 9, 17), card(9, 8, 17), card(9, 1, 17)} {
			for column := range 3 {
				c := card(slices.Clone(plain.Holes)...)
				c.Holes[column] = mask
				fails(t, impl.ErrFormat, impl.CompareFields, c, b, all)
				fails(t, impl.ErrFormat, impl.CompareFields, b, c, all)
				fails(t, impl.ErrFormat, impl.CompareFields, c, c, all)
			}
		}
		// A column outside the field needs no character.
		order, code := impl.CompareFields(card(mask, 9, mask), card(mask, 17, mask), impl.Field{From: 1, To: 2})
		same(t, "columns around the field", "-1 0", order, code)
	}
	for _, a := range append(someCards(), card(3, 3)) {
		for _, b := range append(someCards(), card(3, 3, 3)) {
			width := int64(min(len(a.Holes), len(b.Holes)))
			for _, f := range append(wrongFields(width), impl.Field{From: 0, To: width + 1}) {
				fails(t, impl.ErrRange, impl.CompareFields, a, b, f)
			}
		}
	}
	// A field of only one of the cards; both have columns without characters, too.
	for _, f := range []impl.Field{{From: 0, To: 3}, {From: 2, To: 3}, {From: 1, To: 3}} {
		fails(t, impl.ErrRange, impl.CompareFields, card(9, 9, 9), card(9, 9), f)
		fails(t, impl.ErrRange, impl.CompareFields, card(9, 9), card(9, 9, 9), f)
		fails(t, impl.ErrRange, impl.CompareFields, card(3, 3), card(3, 3, 3), f)
	}
	for _, c := range append(wrongCards(), card(3, 4096)) {
		for _, f := range append(wrongFields(int64(len(c.Holes))), impl.Field{From: 0, To: 1}) {
			for _, d := range append(someCards(), card(3), impl.Card{}) {
				fails(t, impl.ErrInvalid, impl.CompareFields, c, d, f)
				fails(t, impl.ErrInvalid, impl.CompareFields, d, c, f)
			}
		}
	}
}
