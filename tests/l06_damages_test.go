package tests

import (
	"fmt"
	"math"
	"slices"
	"testing"

	"loop.example/g01012/impl"
)

// differing returns in how many of the twelve rows the holes of two columns differ.
func differing(a, b int64) int64 {
	count := int64(0)
	for row := range 12 {
		if a>>row%2 != b>>row%2 {
			count++
		}
	}
	return count
}

// apart returns the distance of two cards with as many columns.
func apart(a, b impl.Card) int64 {
	sum := int64(0)
	for k := range a.Holes {
		sum += differing(a.Holes[k], b.Holes[k])
	}
	return sum
}

// nearestLetters returns the characters that are equally near to a column, in the order of their ranks, and their distance.
func nearestLetters(mask int64) ([]letter, int64) {
	var near []letter
	least := int64(13)
	for _, x := range alphabet() {
		distance := differing(mask, x.holes)
		if distance < least {
			near, least = nil, distance
		}
		if distance == least {
			near = append(near, x)
		}
	}
	return near, least
}

// moved returns the card whose column k has the holes of the column k - by.
func moved(c impl.Card, by int) impl.Card {
	out := card()
	for k := range c.Holes {
		mask := int64(0)
		if from := k - by; 0 <= from && from < len(c.Holes) {
			mask = c.Holes[from]
		}
		out.Holes = append(out.Holes, mask)
	}
	return out
}

// movesTo are all shifts, by less columns than there are, of a card that give another one.
func movesTo(c, read impl.Card) []int {
	var list []int
	for by := 1 - len(c.Holes); by < len(c.Holes); by++ {
		if slices.Equal(moved(c, by).Holes, read.Holes) {
			list = append(list, by)
		}
	}
	return list
}

// foundMove returns the shift that is to be told for a card, and whether there is one.
func foundMove(c, read impl.Card) (int, bool) {
	best, found := 0, false
	for _, by := range movesTo(c, read) {
		if !found || max(by, -by) < max(best, -best) || by > 0 && by == -best {
			best, found = by, true
		}
	}
	return best, found
}

// withHoles returns the card with a column that has other holes.
func withHoles(c impl.Card, column int, mask int64) impl.Card {
	out := card(slices.Clone(c.Holes)...)
	out.Holes[column] = mask
	return out
}

// allWidths are cards of 1 to MaxColumns columns, which have holes of a character, of none, and no holes.
func allWidths() []impl.Card {
	var list []impl.Card
	for width := 1; width <= impl.MaxColumns; width++ {
		list = append(list, worn(width), wide(width, 0), wide(width, 9), wide(width, impl.AllRows))
	}
	return list
}

// pairFunctions are the functions with two cards that should have as many columns.
func pairFunctions() []any {
	return []any{impl.DistanceOf, impl.ShiftOf, impl.AddedHoles, impl.LostHoles}
}

// TestErrorsOfPairs checks ErrInvalid and ErrRange, in this order, of the functions with two cards.
func TestErrorsOfPairs(t *testing.T) {
	for _, f := range pairFunctions() {
		for _, a := range someCards() {
			for _, b := range someCards() {
				if len(a.Holes) != len(b.Holes) {
					fails(t, impl.ErrRange, f, a, b)
				}
			}
			// Cards that are not valid may have as many columns, or not.
			for _, b := range append(wrongCards(), wide(len(a.Holes), -1), wide(len(a.Holes), impl.AllRows+1), withHoles(a, len(a.Holes)-1, -1)) {
				fails(t, impl.ErrInvalid, f, a, b)
				fails(t, impl.ErrInvalid, f, b, a)
				fails(t, impl.ErrInvalid, f, b, b)
			}
		}
		// The holes of the one card begin those of the other one.
		fails(t, impl.ErrRange, f, card(9), card(9, 0))
		fails(t, impl.ErrRange, f, card(9, 0), card(9))
		fails(t, impl.ErrRange, f, wide(impl.MaxColumns, 0), wide(impl.MaxColumns-1, 0))
	}
}

func TestDistanceOf(t *testing.T) {
	for _, x := range []struct {
		a, b impl.Card
		want int64
	}{
		{cardOf("AB1"), cardOf("AC1"), 2},
		{cardOf("AB1"), cardOf("AB1"), 0},
		{card(0), card(0), 0},
		{card(0), card(impl.AllRows), 12},
		{card(impl.AllRows), card(impl.AllRows), 0},
		// The same number of holes, in other rows or columns.
		{card(1), card(2), 2},
		{card(9, 0), card(0, 9), 4},
		{card(25), card(9), 1},
		{card(1365), card(2730), 12},
		{wide(impl.MaxColumns, 0), wide(impl.MaxColumns, impl.AllRows), 240},
		{wide(impl.MaxColumns, 0), withHoles(wide(impl.MaxColumns, 0), impl.MaxColumns-1, 2048), 1},
		{wide(impl.MaxColumns, 0), withHoles(wide(impl.MaxColumns, 0), 0, 1), 1},
	} {
		n, code := impl.DistanceOf(x.a, x.b)
		same(t, fmt.Sprintf("DistanceOf(%v, %v)", x.a, x.b), fmt.Sprint(x.want, " 0"), n, code)
		n, code = impl.DistanceOf(x.b, x.a)
		same(t, fmt.Sprintf("DistanceOf(%v, %v)", x.b, x.a), fmt.Sprint(x.want, " 0"), n, code)
	}
	for mask := int64(0); mask <= impl.AllRows; mask++ {
		for _, other := range []int64{0, 1, 2048, 9, 1365, impl.AllRows, impl.AllRows - mask} {
			if n, code := impl.DistanceOf(card(mask, 7, other), card(other, 7, 0)); code != impl.OK || n != differing(mask, other)+differing(other, 0) {
				t.Errorf("distance of the holes %d and %d: got %d, %d", mask, other, n, code)
			}
		}
	}
}

func TestLaceColumn(t *testing.T) {
	for _, c := range append(someCards(), allWidths()...) {
		width := len(c.Holes)
		for column := range width {
			want := withHoles(c, column, 4095)
			if got, code := impl.LaceColumn(c, int64(column)); code != impl.OK || !impl.SameCard(got, want) {
				t.Errorf("LaceColumn(%v, %d): got %v, %d, want %v", c, column, got, code, want)
			}
		}
		for _, column := range wrongColumns(int64(width)) {
			fails(t, impl.ErrRange, impl.LaceColumn, c, column)
		}
	}
	for _, c := range append(wrongCards(), card(9, 4096), card(-1, 9)) {
		for _, column := range append(wrongColumns(int64(len(c.Holes))), 0, 1) {
			fails(t, impl.ErrInvalid, impl.LaceColumn, c, column)
		}
	}
}

func TestLacedColumns(t *testing.T) {
	for _, x := range []struct {
		c    impl.Card
		want string
	}{
		{card(0), "[] 0"},
		{card(4095), "[0] 0"},
		{card(4094), "[] 0"},
		{card(4095, 0, 4095), "[0 2] 0"},
		{card(0, 4095, 9), "[1] 0"},
		{wide(impl.MaxColumns, 0), "[] 0"},
		{wide(impl.MaxColumns, 4095), "[0 1 2 3 4 5 6 7 8 9 10 11 12 13 14 15 16 17 18 19] 0"},
		{withHoles(wide(impl.MaxColumns, 4095), 19, 2047), "[0 1 2 3 4 5 6 7 8 9 10 11 12 13 14 15 16 17 18] 0"},
	} {
		list, code := impl.LacedColumns(x.c)
		same(t, fmt.Sprintf("LacedColumns(%v)", x.c), x.want, list, code)
	}
	// One hole less is enough for a column not to be laced.
	for mask := int64(0); mask < impl.AllRows; mask++ {
		list, code := impl.LacedColumns(card(mask, 4095, mask))
		same(t, fmt.Sprintf("LacedColumns beside the holes %d", mask), "[1] 0", list, code)
	}
	for _, c := range append(someCards(), allWidths()...) {
		before, _ := impl.LacedColumns(c)
		for column := range c.Holes {
			laced, _ := impl.LaceColumn(c, int64(column))
			want := slices.Compact(slices.Sorted(slices.Values(append(slices.Clone(before), int64(column)))))
			if list, code := impl.LacedColumns(laced); code != impl.OK || !slices.Equal(list, want) {
				t.Errorf("LacedColumns(%v): got %v, %d, want %v", laced, list, code, want)
			}
		}
	}
	for _, c := range append(wrongCards(), card(4095, 4096), card(-1, 4095)) {
		fails(t, impl.ErrInvalid, impl.LacedColumns, c)
	}
}

func TestShiftCard(t *testing.T) {
	for _, x := range []struct {
		text string
		by   int64
		want string
	}{
		{"AB1", 0, "AB1"}, {"AB1", 1, " AB"}, {"AB1", -1, "B1 "}, {"AB1", 2, "  A"}, {"AB1", -2, "1  "}, {"AB1", 3, "   "}, {"AB1", -3, "   "}, {"AB1", 20, "   "}, {"AB1", -20, "   "},
		{"A", 0, "A"}, {"A", 1, " "}, {"A", -1, " "}, {"A", 20, " "}, {"A", -20, " "},
		{"ABCDEFGHIJKLMNOPQRST", 19, "                   A"}, {"ABCDEFGHIJKLMNOPQRST", -19, "T                   "}, {"ABCDEFGHIJKLMNOPQRST", 20, "                    "}, {"ABCDEFGHIJKLMNOPQRST", -20, "                    "},
	} {
		if c, code := impl.ShiftCard(cardOf(x.text), x.by); code != impl.OK || !impl.SameCard(c, cardOf(x.want)) {
			t.Errorf("ShiftCard of %q by %d: got %v, %d, want %q", x.text, x.by, c, code, x.want)
		}
	}
	wrong := []int64{21, -21, 22, -22, 40, -40, 1 << 32, -1 << 32, 1 << 62, math.MinInt64, math.MinInt64 + 1, math.MaxInt64, math.MaxInt64 - 1}
	for _, c := range append(someCards(), allWidths()...) {
		for by := -impl.MaxColumns; by <= impl.MaxColumns; by++ {
			want := moved(c, by)
			if got, code := impl.ShiftCard(c, int64(by)); code != impl.OK || !impl.SameCard(got, want) {
				t.Errorf("ShiftCard(%v, %d): got %v, %d, want %v", c, by, got, code, want)
			}
		}
		for _, by := range wrong {
			fails(t, impl.ErrRange, impl.ShiftCard, c, by)
		}
	}
	for _, c := range append(wrongCards(), card(9, 4096), card(-1, 9)) {
		for _, by := range append(wrong, 0, 1, -1, 20, -20) {
			fails(t, impl.ErrInvalid, impl.ShiftCard, c, by)
		}
	}
}

func TestShiftOf(t *testing.T) {
	center := func(width, column int) impl.Card { return withHoles(wide(width, 0), column, 9) }
	for _, x := range []struct {
		c, read impl.Card
		want    string
	}{
		{cardOf("AB1"), cardOf(" AB"), "1 0"},
		{cardOf("AB1"), cardOf("B1 "), "-1 0"},
		{cardOf("AB1"), cardOf("  A"), "2 0"},
		{cardOf("AB1"), cardOf("1  "), "-2 0"},
		{cardOf("AB1"), cardOf("AC1"), "0 3"},
		// Cards that differ in one hole.
		{card(9, 25), card(9, 9), "0 3"},
		{card(9, 25), card(0, 1), "0 3"},
		{card(9, 25), card(0, 9), "1 0"},
		// The card itself, also if other shifts give it.
		{cardOf("AB1"), cardOf("AB1"), "0 0"},
		{card(0), card(0), "0 0"},
		{wide(impl.MaxColumns, 0), wide(impl.MaxColumns, 0), "0 0"},
		{wide(3, 9), wide(3, 9), "0 0"},
		// Equal columns.
		{wide(3, 9), card(0, 9, 9), "1 0"},
		{wide(3, 9), card(9, 9, 0), "-1 0"},
		{wide(3, 9), card(0, 0, 9), "2 0"},
		{wide(3, 9), card(9, 0, 0), "-2 0"},
		{wide(3, 9), card(0, 9, 0), "0 3"},
		// Of the amounts 1 and -1, and 2 and -2, the positive one is told.
		{card(9, 0, 9), card(0, 9, 0), "1 0"},
		{card(9, 0, 9, 0, 9), card(0, 9, 0, 9, 0), "1 0"},
		{card(9, 5, 0, 0, 9, 5), card(0, 0, 9, 5, 0, 0), "2 0"},
		{card(0, 9, 0), card(0, 0, 0), "2 0"},
		{center(19, 9), wide(19, 0), "10 0"},
		// The least absolute value is told, whichever its sign is.
		{card(9, 0, 0), card(0, 0, 0), "-1 0"},
		{card(0, 0, 9), card(0, 0, 0), "1 0"},
		{card(0, 9, 0, 0), card(0, 0, 0, 0), "-2 0"},
		{card(0, 0, 9, 0), card(0, 0, 0, 0), "2 0"},
		{center(20, 9), wide(20, 0), "-10 0"},
		{center(20, 10), wide(20, 0), "10 0"},
		{center(20, 0), center(20, 19), "19 0"},
		{center(20, 19), center(20, 0), "-19 0"},
		// Only a shift by all columns would give these.
		{card(9), card(0), "0 3"},
		{card(9, 9), card(0, 0), "0 3"},
		{card(9, 0, 9), card(0, 0, 0), "0 3"},
		{wide(impl.MaxColumns, 9), wide(impl.MaxColumns, 0), "0 3"},
		// Holes are lost by a shift, and none come.
		{card(0), card(9), "0 3"},
		{card(0, 0, 0), card(0, 9, 0), "0 3"},
		{card(9, 2), card(2, 9), "0 3"},
		{card(9, 2, 4), card(4, 9, 2), "0 3"},
	} {
		by, code := impl.ShiftOf(x.c, x.read)
		same(t, fmt.Sprintf("ShiftOf(%v, %v)", x.c, x.read), x.want, by, code)
	}
}

// checkShift checks P6: the shift that is found is the one that is to be told, and gives the card that is read.
func checkShift(t *testing.T, c, read impl.Card) {
	t.Helper()
	want, found := foundMove(c, read)
	if !found {
		fails(t, impl.ErrNotFound, impl.ShiftOf, c, read)
		return
	}
	by, code := impl.ShiftOf(c, read)
	if code != impl.OK || by != int64(want) {
		t.Errorf("ShiftOf(%v, %v): got %d, %d, want %d", c, read, by, code, want)
	}
	if again, code := impl.ShiftCard(c, by); code != impl.OK || !impl.SameCard(again, read) {
		t.Errorf("ShiftCard(%v, %d), the shift that is found: got %v, %d, want %v", c, by, again, code, read)
	}
}

// TestShiftOfSmallCards checks P6 for all pairs of small cards with a few kinds of holes.
func TestShiftOfSmallCards(t *testing.T) {
	cards := slices.Concat(cardsOf(1, 0, 1, 9, 4095), cardsOf(2, 0, 1, 9, 4095), cardsOf(3, 0, 1, 9, 4095), cardsOf(4, 0, 1, 9), cardsOf(5, 0, 9), cardsOf(6, 0, 9))
	several := 0
	for _, c := range cards {
		for _, read := range cards {
			if len(c.Holes) != len(read.Holes) {
				continue
			}
			checkShift(t, c, read)
			if list := movesTo(c, read); len(list) > 1 {
				several++
			}
		}
	}
	// Without such cards, nothing would be said about the order of the shifts.
	if several < 100 {
		t.Errorf("only %d pairs of cards with several shifts", several)
	}
}

// TestShiftOfShiftCard checks P6 for all shifts of cards of all widths, those by all columns and more included, and for cards with one more hole.
func TestShiftOfShiftCard(t *testing.T) {
	for _, c := range append(someCards(), allWidths()...) {
		width := len(c.Holes)
		for by := -width; by <= width; by++ {
			read := moved(c, by)
			checkShift(t, c, read)
			for _, column := range []int{0, width / 2, width - 1} {
				checkShift(t, c, withHoles(read, column, read.Holes[column]^64))
				checkShift(t, withHoles(c, column, c.Holes[column]^64), read)
			}
		}
	}
}

func TestAddedAndLostHoles(t *testing.T) {
	for _, x := range []struct {
		c, read     impl.Card
		added, lost string
	}{
		{cardOf("AB1"), cardOf("A  "), "[] 0", "[1 2] 0"},
		{cardOf("A  "), cardOf("AB1"), "[1 2] 0", "[] 0"},
		{cardOf("AB1"), cardOf("AB1"), "[] 0", "[] 0"},
		// A column has both an added and a lost hole, or one of them.
		{card(9), card(17), "[0] 0", "[0] 0"},
		{card(9, 9, 9, 9), card(17, 9, 25, 1), "[0 2] 0", "[0 3] 0"},
		{card(1), card(2), "[0] 0", "[0] 0"},
		{card(1), card(3), "[0] 0", "[] 0"},
		{card(3), card(1), "[] 0", "[0] 0"},
		{card(0), card(0), "[] 0", "[] 0"},
		{card(0), card(4095), "[0] 0", "[] 0"},
		{card(4095), card(0), "[] 0", "[0] 0"},
		{card(4095, 4095), card(4095, 2047), "[] 0", "[1] 0"},
		{wide(impl.MaxColumns, 1365), wide(impl.MaxColumns, 2730), "[0 1 2 3 4 5 6 7 8 9 10 11 12 13 14 15 16 17 18 19] 0", "[0 1 2 3 4 5 6 7 8 9 10 11 12 13 14 15 16 17 18 19] 0"},
	} {
		list, code := impl.AddedHoles(x.c, x.read)
		same(t, fmt.Sprintf("AddedHoles(%v, %v)", x.c, x.read), x.added, list, code)
		list, code = impl.LostHoles(x.c, x.read)
		same(t, fmt.Sprintf("LostHoles(%v, %v)", x.c, x.read), x.lost, list, code)
	}
}

// checkHoles checks which columns have added and lost holes.
func checkHoles(t *testing.T, c, read impl.Card) {
	t.Helper()
	var more, less []int64
	for k := range c.Holes {
		both := c.Holes[k] & read.Holes[k]
		if read.Holes[k] != both {
			more = append(more, int64(k))
		}
		if c.Holes[k] != both {
			less = append(less, int64(k))
		}
	}
	added, one := impl.AddedHoles(c, read)
	lost, two := impl.LostHoles(c, read)
	if one != impl.OK || !slices.Equal(added, more) || two != impl.OK || !slices.Equal(lost, less) {
		t.Errorf("holes of %v and %v: got %v, %d and %v, %d, want %v and %v", c, read, added, one, lost, two, more, less)
	}
	// What is added to the one card is lost from the other one.
	again, code := impl.LostHoles(read, c)
	same(t, fmt.Sprintf("LostHoles(%v, %v)", read, c), fmt.Sprint(added, one), again, code)
}

// TestAddedAndLostHolesOfAllColumns checks all holes of a column against some others.
func TestAddedAndLostHolesOfAllColumns(t *testing.T) {
	for mask := int64(0); mask <= impl.AllRows; mask++ {
		for _, other := range []int64{0, 9, 2048, 1365, impl.AllRows} {
			checkHoles(t, card(0, mask), card(0, other))
			checkHoles(t, card(other, mask), card(mask, 5))
		}
	}
	for _, a := range allWidths() {
		for _, b := range allWidths() {
			if len(a.Holes) == len(b.Holes) {
				checkHoles(t, a, b)
			}
		}
	}
}

func TestRepairColumn(t *testing.T) {
	for _, x := range []struct {
		mask int64
		char byte
		want int64
	}{
		// The example of the chapter.
		{holesIn(12, 1, 2), 'A', 1},
		{0, ' ', 0}, {1, '&', 0}, {2, '-', 0}, {4, '0', 0}, {9, 'A', 0}, {12, '/', 0}, {2052, 'Z', 0},
		// Of several that are equally near, the one with the least rank is told, which need not have the least byte or holes.
		{holesIn(12, 11), '&', 1}, {holesIn(11, 0), '-', 1}, {holesIn(12, 0), '&', 1}, {holesIn(12, 11, 0), '&', 2},
		{holesIn(1, 2), '1', 1}, {holesIn(8, 9), '8', 1}, {holesIn(1, 2, 3), '1', 2},
		{holesIn(12, 11, 1), 'A', 1}, {holesIn(11, 0, 1), 'J', 1}, {holesIn(0, 1, 2), '/', 1}, {holesIn(11, 0, 9), 'R', 1}, {holesIn(12, 0, 9), 'I', 1},
		{holesIn(11, 2, 3), 'K', 1}, {holesIn(0, 8, 9), 'Y', 1}, {holesIn(12, 11, 8, 9), 'H', 2}, {holesIn(1, 2, 3, 4, 5, 6, 7, 8, 9), '1', 8},
		{impl.AllRows, 'A', 10}, {impl.AllRows - 1, 'J', 9}, {impl.AllRows - 3, '/', 8}, {impl.AllRows - 7, '1', 8}, {impl.AllRows - 8, 'B', 9},
	} {
		char, n, code := impl.RepairColumn(x.mask)
		same(t, fmt.Sprintf("RepairColumn(%d)", x.mask), fmt.Sprint(x.char, x.want, impl.OK), char, n, code)
	}
	for _, mask := range []int64{-1, impl.AllRows + 1, -2, 4097, -9, -4095, 4096 + 9, 8191, 1 << 32, 1<<32 + 9, 1 << 62, math.MinInt64, math.MinInt64 + 9, math.MaxInt64 - 1, math.MaxInt64} {
		fails(t, impl.ErrRange, impl.RepairColumn, mask)
	}
}

// TestRepairColumnOfAllMasks compares the nearest character of all holes with the one that a search over all characters by their ranks finds.
func TestRepairColumnOfAllMasks(t *testing.T) {
	ties := map[int]int{}
	for mask := int64(0); mask <= impl.AllRows; mask++ {
		near, distance := nearestLetters(mask)
		ties[min(len(near), 3)]++
		if char, n, code := impl.RepairColumn(mask); code != impl.OK || char != near[0].char || n != distance {
			t.Errorf("RepairColumn(%d): got %q, %d, %d, want %q, %d", mask, char, n, code, near[0].char, distance)
		}
	}
	// Only the holes of a character have one nearest character; all others have several.
	same(t, "numbers of holes with 1, 2 and more nearest characters", "40 174 3882", ties[1], ties[2], ties[3])
}

// checkRepair checks P6: the columns of a repaired card have their nearest characters, at the told distance.
func checkRepair(t *testing.T, c impl.Card) {
	t.Helper()
	want, sum := card(), int64(0)
	for _, mask := range c.Holes {
		near, distance := nearestLetters(mask)
		want.Holes, sum = append(want.Holes, near[0].holes), sum+distance
	}
	got, n, code := impl.RepairCard(c)
	if code != impl.OK || n != sum || !impl.SameCard(got, want) {
		t.Errorf("RepairCard(%v): got %v, %d, %d, want %v, %d", c, got, n, code, want, sum)
		return
	}
	if illegal, code := impl.IllegalColumns(got); code != impl.OK || len(illegal) > 0 {
		t.Errorf("RepairCard(%v): %v has columns without a character: %v, %d", c, got, illegal, code)
	}
	if distance, code := impl.DistanceOf(c, got); code != impl.OK || distance != n {
		t.Errorf("RepairCard(%v): got the distance %d, but DistanceOf tells %d, %d", c, n, distance, code)
	}
	again, n, code := impl.RepairCard(got)
	same(t, fmt.Sprintf("RepairCard of %v, which is repaired", got), fmt.Sprint(got, 0, 0), again, n, code)
}

func TestRepairCard(t *testing.T) {
	for _, x := range []struct {
		c    impl.Card
		text string
		want int64
	}{
		{card(9, 25), "AA", 1},
		{card(25, 25, 3), "AA&", 3},
		{card(0), " ", 0},
		{card(impl.AllRows), "A", 10},
		{wide(impl.MaxColumns, impl.AllRows), "AAAAAAAAAAAAAAAAAAAA", 200},
		{wide(impl.MaxColumns, 0), "                    ", 0},
		{card(0, impl.AllRows, 6), " A-", 11},
	} {
		c, n, code := impl.RepairCard(x.c)
		same(t, fmt.Sprintf("RepairCard(%v)", x.c), fmt.Sprint(cardOf(x.text), x.want, 0), c, n, code)
	}
	// A card of characters only stays as it is.
	for _, text := range []string{allChars()[:20], allChars()[20:], allChars()[10:30], "AB1", " ", "Z"} {
		c, n, code := impl.RepairCard(cardOf(text))
		same(t, fmt.Sprintf("RepairCard of %q", text), fmt.Sprint(cardOf(text), 0, 0), c, n, code)
	}
	for mask := int64(0); mask <= impl.AllRows; mask++ {
		checkRepair(t, card(mask))
		checkRepair(t, card(mask, 25, impl.AllRows-mask))
	}
	for _, c := range append(someCards(), allWidths()...) {
		checkRepair(t, c)
	}
	for _, c := range append(wrongCards(), card(9, 4096), card(-1, 9)) {
		fails(t, impl.ErrInvalid, impl.RepairCard, c)
	}
}

func TestNearestCard(t *testing.T) {
	a, b, z := cardOf("AB1"), cardOf("AC1"), cardOf("ZZZ")
	last := append(copies(impl.MaxDeck-1, z), b)
	for _, x := range []struct {
		deck []impl.Card
		c    impl.Card
		want string
	}{
		{[]impl.Card{z, b, a}, cardOf("AB2"), "2 2 0"},
		// Of several at the least distance, the first one is told.
		{[]impl.Card{b, a, z}, cardOf("AD1"), "0 2 0"},
		{[]impl.Card{a, b, z}, cardOf("AD1"), "0 2 0"},
		{[]impl.Card{z, a, b, a, b}, cardOf("AD1"), "1 2 0"},
		{[]impl.Card{card(3), card(0), card(1), card(2)}, card(0), "1 0 0"},
		{[]impl.Card{card(3), card(4), card(1), card(2)}, card(0), "1 1 0"},
		{[]impl.Card{card(3), card(5), card(6)}, card(0), "0 2 0"},
		{[]impl.Card{card(7), card(5), card(6)}, card(0), "1 2 0"},
		// The card itself is there, or is there twice.
		{[]impl.Card{z, b, a}, a, "2 0 0"},
		{[]impl.Card{z, a, b, a}, a, "1 0 0"},
		{[]impl.Card{a, a}, a, "0 0 0"},
		// One card, far away as it may be.
		{[]impl.Card{a}, a, "0 0 0"},
		{[]impl.Card{a}, b, "0 2 0"},
		{[]impl.Card{card(0)}, card(4095), "0 12 0"},
		{[]impl.Card{wide(impl.MaxColumns, 0)}, wide(impl.MaxColumns, 4095), "0 240 0"},
		// As many cards as a deck may have.
		{last, a, "39 2 0"},
		{copies(impl.MaxDeck, z), z, "0 0 0"},
		{copies(impl.MaxDeck, wide(impl.MaxColumns, 0)), wide(impl.MaxColumns, 4095), "0 240 0"},
		{append(copies(impl.MaxDeck-2, z), a, a), a, "38 0 0"},
	} {
		at, n, code := impl.NearestCard(x.deck, x.c)
		same(t, fmt.Sprintf("NearestCard(%v, %v)", x.deck, x.c), x.want, at, n, code)
	}
}

// checkNearest compares the card that is told with the one that a search over the deck finds.
func checkNearest(t *testing.T, deck []impl.Card, c impl.Card) {
	t.Helper()
	best := 0
	for place, other := range deck {
		if apart(other, c) < apart(deck[best], c) {
			best = place
		}
	}
	at, n, code := impl.NearestCard(deck, c)
	if code != impl.OK || at != int64(best) || n != apart(deck[best], c) {
		t.Errorf("NearestCard(%v, %v): got %d, %d, %d, want %d, %d", deck, c, at, n, code, best, apart(deck[best], c))
	}
}

func TestNearestCardOfSmallDecks(t *testing.T) {
	narrow, wider := cardsOf(1, 0, 1, 3, 9, 25, 4095), cardsOf(2, 0, 1, 9)
	for _, cards := range [][]impl.Card{narrow, wider} {
		for _, c := range cards {
			for _, one := range cards {
				checkNearest(t, []impl.Card{one}, c)
				for _, two := range cards {
					checkNearest(t, []impl.Card{one, two}, c)
					for _, three := range cards {
						checkNearest(t, []impl.Card{one, two, three}, c)
					}
				}
			}
		}
	}
}

// TestNearestCardAtAllPlaces puts one or two nearest cards at each place of a deck of any size.
func TestNearestCardAtAllPlaces(t *testing.T) {
	c := cardOf("AB1")
	for size := 1; size <= impl.MaxDeck; size++ {
		for place := range size {
			deck := copies(size, cardOf("ZZZ"))
			deck[place] = cardOf("AB2")
			checkNearest(t, deck, c)
			deck[(3*place+1)%size] = cardOf("AB3")
			checkNearest(t, deck, c)
			deck[size-1-place] = c
			checkNearest(t, deck, c)
		}
	}
}

func TestErrorsOfNearestCard(t *testing.T) {
	none := [][]impl.Card{nil, {}}
	// Lists that are no decks: with a card that is not valid, with cards of different widths, and with too many cards.
	wrong := [][]impl.Card{{{}}, {card(-1)}, {card(9), card(4096)}, {card(9), card(9, 9)}, {card(9, 9), card(9)}, {card(9), {}}, copies(impl.MaxDeck+1, card(9)), copies(impl.MaxDeck+1, card(9, 9)), copies(100, card(0))}
	for _, c := range someCards() {
		width := len(c.Holes)
		for _, deck := range none {
			fails(t, impl.ErrNotFound, impl.NearestCard, deck, c)
		}
		for _, deck := range append(wrong, append(copies(3, c), withHoles(c, width-1, -1)), copies(impl.MaxDeck+1, c)) {
			fails(t, impl.ErrInvalid, impl.NearestCard, deck, c)
		}
		for _, other := range []int{1, 2, width - 1, width + 1, impl.MaxColumns} {
			if other == width || other < 1 || other > impl.MaxColumns {
				continue
			}
			fails(t, impl.ErrRange, impl.NearestCard, copies(1, wide(other, 9)), c)
			fails(t, impl.ErrRange, impl.NearestCard, copies(impl.MaxDeck, wide(other, 0)), c)
		}
	}
	for _, c := range append(wrongCards(), card(9, 4096), card(-1, 9)) {
		// ErrInvalid is told ahead of ErrNotFound and of ErrRange.
		for _, deck := range append(none, append(wrong, copies(1, card(9)), copies(2, card(9, 9)), copies(impl.MaxDeck, wide(impl.MaxColumns, 0)))...) {
			fails(t, impl.ErrInvalid, impl.NearestCard, deck, c)
		}
	}
}

func TestTornColumns(t *testing.T) {
	for _, x := range []struct {
		text     string
		from, to int64
		want     string
	}{
		{"AB1", 1, 3, "A  "}, {"AB1", 0, 3, "   "}, {"AB1", 0, 1, " B1"}, {"AB1", 1, 2, "A 1"}, {"AB1", 2, 3, "AB "}, {"A", 0, 1, " "}, {" ", 0, 1, " "},
	} {
		c, code := impl.TornColumns(cardOf(x.text), impl.Field{From: x.from, To: x.to})
		same(t, fmt.Sprintf("TornColumns of %q from %d to %d", x.text, x.from, x.to), fmt.Sprint(cardOf(x.want), 0), c, code)
	}
	for _, c := range append(someCards(), allWidths()...) {
		width := len(c.Holes)
		for from := range width {
			want := c
			for to := from + 1; to <= width; to++ {
				want = withHoles(want, to-1, 0)
				if got, code := impl.TornColumns(c, impl.Field{From: int64(from), To: int64(to)}); code != impl.OK || !impl.SameCard(got, want) {
					t.Errorf("TornColumns(%v, %d to %d): got %v, %d, want %v", c, from, to, got, code, want)
				}
			}
		}
		for _, f := range wrongFields(int64(width)) {
			fails(t, impl.ErrRange, impl.TornColumns, c, f)
		}
	}
	for _, c := range append(wrongCards(), card(0, 4096), card(-1, 9)) {
		for _, f := range append(wrongFields(int64(len(c.Holes))), impl.Field{From: 0, To: 1}, impl.Field{From: 0, To: 2}) {
			fails(t, impl.ErrInvalid, impl.TornColumns, c, f)
		}
	}
}
