package tests

import (
	"fmt"
	"math"
	"math/rand/v2"
	"slices"
	"strings"
	"testing"

	"loop.example/g01012/impl"
)

// columnsFrom returns the field from a column on, with so many columns.
func columnsFrom(from, count int64) impl.Field { return impl.Field{From: from, To: from + count} }

// setup returns a setup without Detail.
func setup(group impl.Field, sums ...impl.Field) impl.Setup {
	return impl.Setup{Group: group, Sums: sums}
}

// detailed returns a setup with Detail.
func detailed(s impl.Setup) impl.Setup {
	s.Detail = true
	return s
}

// isSetup reports whether a setup is valid for so many columns.
func isSetup(s impl.Setup, width int64) bool {
	if width < 1 || width > 20 || len(s.Sums) > 4 {
		return false
	}
	all := fieldsOf(width)
	good := slices.DeleteFunc(slices.Clone(all), func(f impl.Field) bool { return f.To-f.From >= 13 })
	for _, f := range s.Sums {
		if !slices.Contains(good, f) {
			return false
		}
	}
	return slices.Contains(all, s.Group)
}

// numberOf returns the number that columns have, after a look at their characters, and whether there is one.
func numberOf(holes []int64) (int64, bool) {
	own, sign := slices.Clone(holes), int64(1)
	if last := len(own) - 1; own[last]&holesIn(11) != 0 {
		own[last], sign = own[last]-holesIn(11), -1
	}
	digits := strings.TrimLeft(textIn(own), " ")
	n := int64(0)
	for _, digit := range digits {
		if digit < '0' || digit > '9' {
			return 0, false
		}
		n = 10*n + int64(digit) - '0'
	}
	return sign * n, n != 0 || sign == 1
}

// A table is what the functions of the chapter tell of a deck.
type table struct {
	names  []string
	groups [][]int64
	grand  []int64
	lines  []string
	cycles int
}

// plainLine returns the numbers of a line.
func plainLine(sums []int64) string {
	if len(sums) == 0 {
		return "-"
	}
	return strings.Trim(fmt.Sprint(sums), "[]")
}

// tableOf returns the table of a deck, for which two cards are looked at after the other, or the error that comes first.
func tableOf(s impl.Setup, deck []impl.Card) (table, int64) {
	if !impl.ValidDeck(deck) {
		return table{}, impl.ErrInvalid
	}
	if !isSetup(s, columnsOf(deck)) {
		return table{}, impl.ErrRange
	}
	made := table{grand: make([]int64, len(s.Sums))}
	for k, c := range deck {
		name := textIn(c.Holes[s.Group.From:s.Group.To])
		var numbers []int64
		for _, f := range s.Sums {
			n, ok := numberOf(c.Holes[f.From:f.To])
			if !ok {
				return table{}, impl.ErrFormat
			}
			numbers = append(numbers, n)
		}
		if strings.Contains(name, "?") {
			return table{}, impl.ErrFormat
		}
		if k == 0 || !sameField(deck[k-1], c, s.Group) {
			made.names, made.groups = append(made.names, name), append(made.groups, make([]int64, len(s.Sums)))
		}
		if s.Detail {
			made.lines = append(made.lines, name+" "+plainLine(numbers))
		}
		sums := made.groups[len(made.groups)-1]
		for place, n := range numbers {
			sums[place], made.grand[place] = sums[place]+n, made.grand[place]+n
		}
		if k == len(deck)-1 || !sameField(c, deck[k+1], s.Group) {
			made.lines = append(made.lines, "*"+name+" "+plainLine(sums))
		}
	}
	made.lines = append(made.lines, "** "+plainLine(made.grand))
	made.cycles = len(deck) + len(made.groups) + 1
	return made, impl.OK
}

// exactly fails the test unless a list of texts has these, blanks included, and the code is OK.
func exactly(t *testing.T, what string, want, got []string, code int64) {
	t.Helper()
	if code != impl.OK || !slices.Equal(got, want) {
		t.Errorf("%s: got %q and the code %d, want %q", what, got, code, want)
	}
}

// tabulations are calls of all functions with a setup and a deck.
func tabulations(s impl.Setup, deck []impl.Card) []trial {
	var list []trial
	for name, f := range map[string]any{"GroupSums": impl.GroupSums, "GroupNames": impl.GroupNames, "GrandSums": impl.GrandSums, "BreaksIn": impl.BreaksIn, "TabulateDeck": impl.TabulateDeck, "CyclesFor": impl.CyclesFor} {
		list = append(list, trial{name, f, []any{s, deck}})
	}
	return list
}

// checkTable compares what all functions return for a setup and a deck with a table that is made plainly, or with the error that comes first.
func checkTable(t *testing.T, s impl.Setup, deck []impl.Card) int64 {
	t.Helper()
	made, code := tableOf(s, deck)
	if code != impl.OK {
		allFail(t, code, tabulations(s, deck))
		return code
	}
	what := fmt.Sprintf("(%v, %v)", s, deck)
	names, code := impl.GroupNames(s, deck)
	exactly(t, "GroupNames"+what, made.names, names, code)
	lines, code := impl.TabulateDeck(s, deck)
	exactly(t, "TabulateDeck"+what, made.lines, lines, code)
	returns(t, impl.OK, []any{made.groups}, impl.GroupSums, "GroupSums", s, deck)
	returns(t, impl.OK, []any{made.grand}, impl.GrandSums, "GrandSums", s, deck)
	returns(t, impl.OK, []any{int64(max(0, len(made.groups)-1))}, impl.BreaksIn, "BreaksIn", s, deck)
	returns(t, impl.OK, []any{int64(made.cycles)}, impl.CyclesFor, "CyclesFor", s, deck)
	return impl.OK
}

// TestTabulatorOfTheDocument checks the example of the chapter.
func TestTabulatorOfTheDocument(t *testing.T) {
	lines, code := impl.TabulateDeck(setup(columnsFrom(0, 1), columnsFrom(1, 2)), listed("A01,A02,B05"))
	exactly(t, "two groups", []string{"*A 3", "*B 5", "** 8"}, lines, code)
	same(t, "limits", "4", impl.MaxSums)
}

func TestValidSetup(t *testing.T) {
	one := columnsFrom(0, 1)
	for _, x := range []struct {
		s     impl.Setup
		width int64
		want  bool
	}{
		{setup(one), 1, true}, {setup(one, one), 1, true}, {setup(one, one, one, one, one), 1, true}, {setup(one, one, one, one, one, one), 1, false},
		{setup(columnsFrom(0, 20)), 20, true}, {setup(columnsFrom(19, 1), columnsFrom(19, 1)), 20, true}, {setup(columnsFrom(0, 20)), 19, false}, {setup(columnsFrom(19, 1)), 19, false}, {setup(columnsFrom(20, 1)), 20, false}, {setup(one, columnsFrom(20, 1)), 20, false}, {setup(columnsFrom(0, 21)), 20, false}, {setup(columnsFrom(0, 21)), 21, false}, {setup(columnsFrom(0, 13)), 13, true},
		{setup(one, columnsFrom(0, 12)), 12, true}, {setup(one, columnsFrom(0, 12)), 11, false}, {setup(one, columnsFrom(0, 13)), 13, false}, {setup(one, columnsFrom(8, 12)), 20, true}, {setup(one, columnsFrom(7, 13)), 20, false}, {setup(one, columnsFrom(0, 20)), 20, false}, {setup(one, one, one, one, columnsFrom(3, 12)), 20, true}, {setup(one, one, one, one, columnsFrom(3, 13)), 20, false}, {setup(one, columnsFrom(3, 13), one, one, one), 20, false},
		{setup(one), 0, false}, {setup(one), -1, false}, {setup(one), 21, false}, {setup(one), math.MinInt64, false}, {setup(one), math.MaxInt64, false}, {setup(one), 1 << 32, false}, {impl.Setup{}, 0, false}, {impl.Setup{}, 1, false}, {impl.Setup{}, 20, false}, {impl.Setup{}, 21, false},
		{setup(one, impl.Field{}), 20, false}, {setup(one, one, impl.Field{From: 2, To: 2}), 20, false}, {setup(impl.Field{From: 2, To: 1}), 20, false}, {setup(one, impl.Field{From: 2, To: 1}), 20, false},
		{detailed(setup(one)), 1, true}, {detailed(setup(one, one)), 1, true}, {detailed(setup(one)), 0, false}, {detailed(impl.Setup{}), 5, false},
		// A field that ends below its begin by so much that the number of its columns overflows.
		{setup(one, impl.Field{From: math.MaxInt64, To: math.MinInt64}), 20, false}, {setup(one, impl.Field{From: math.MinInt64, To: math.MaxInt64}), 20, false}, {setup(impl.Field{From: math.MaxInt64, To: math.MinInt64}), 20, false}, {setup(impl.Field{From: math.MinInt64, To: math.MaxInt64}), 20, false}, {setup(one, impl.Field{From: math.MinInt64, To: 5}), 20, false}, {setup(one, impl.Field{From: 0, To: math.MaxInt64}), 20, false}, {setup(one, impl.Field{From: 1 << 32, To: 1<<32 + 1}), 20, false},
	} {
		same(t, fmt.Sprintf("ValidSetup(%v, %d)", x.s, x.width), fmt.Sprint(x.want), impl.ValidSetup(x.s, x.width))
		same(t, fmt.Sprintf("isSetup(%v, %d)", x.s, x.width), fmt.Sprint(x.want), isSetup(x.s, x.width))
	}
	for count := range 100 {
		same(t, fmt.Sprintf("ValidSetup with %d sums", count), fmt.Sprint(count <= 4), impl.ValidSetup(setup(one, slices.Repeat([]impl.Field{one}, count)...), 20))
	}
}

// TestFieldsOfSetups checks ValidSetup for all fields of narrow and wide cards, and for wrong ones, as Group and at each place of Sums.
func TestFieldsOfSetups(t *testing.T) {
	numbers := append(edges(), 4, 5, 8, 14, 18)
	for _, from := range numbers {
		for _, to := range numbers {
			f := impl.Field{From: from, To: to}
			for _, width := range numbers {
				list := []impl.Setup{setup(f), setup(f, f), setup(columnsFrom(0, 1), f)}
				for place := range 4 {
					s := setup(columnsFrom(0, 1), slices.Repeat([]impl.Field{columnsFrom(0, 1)}, 4)...)
					s.Sums[place] = f
					list = append(list, s)
				}
				for _, s := range list {
					if got, want := impl.ValidSetup(s, width), isSetup(s, width); got != want {
						t.Errorf("ValidSetup(%v, %d): got %v", s, width, got)
					}
				}
			}
		}
	}
}

func TestTabulateDeck(t *testing.T) {
	one, two := columnsFrom(0, 1), columnsFrom(0, 2)
	for _, x := range []struct {
		s     impl.Setup
		texts string
		want  []string
	}{
		{setup(one), "", []string{"** -"}}, {detailed(setup(one)), "", []string{"** -"}}, {setup(one, one), "", []string{"** 0"}}, {detailed(setup(one, one, one, two)), "", []string{"** 0 0 0"}},
		{setup(one), "A1", []string{"*A -", "** -"}}, {detailed(setup(one)), "A1", []string{"A -", "*A -", "** -"}}, {detailed(setup(one)), "A1,A2,B1", []string{"A -", "A -", "*A -", "B -", "*B -", "** -"}},
		{setup(one, columnsFrom(1, 1)), "A1", []string{"*A 1", "** 1"}}, {setup(one, columnsFrom(1, 1)), "A1,A2", []string{"*A 3", "** 3"}}, {setup(one, columnsFrom(1, 1)), "A1,B2", []string{"*A 1", "*B 2", "** 3"}}, {setup(one, columnsFrom(1, 1)), "A1,B2,A4", []string{"*A 1", "*B 2", "*A 4", "** 7"}}, {setup(one, columnsFrom(1, 1)), "B1,B2,A4,A0,B9,B9", []string{"*B 3", "*A 4", "*B 18", "** 25"}},
		{detailed(setup(one, columnsFrom(1, 1))), "B1,B2,A4,B9", []string{"B 1", "B 2", "*B 3", "A 4", "*A 4", "B 9", "*B 9", "** 16"}},
		{detailed(setup(one, columnsFrom(1, 2), columnsFrom(3, 2))), "A0102,A0303,B0501", []string{"A 1 2", "A 3 3", "*A 4 5", "B 5 1", "*B 5 1", "** 9 6"}}, {setup(one, columnsFrom(3, 2), columnsFrom(1, 2)), "A0102,A0303,B0501", []string{"*A 5 4", "*B 1 5", "** 6 9"}},
		// The text of Group is told with all its blanks.
		{setup(two, columnsFrom(2, 1)), "A 1,A 2,AB4", []string{"*A  3", "*AB 4", "** 7"}}, {detailed(setup(two, columnsFrom(2, 1))), "A 1, A2,  4,  8", []string{"A  1", "*A  1", " A 2", "* A 2", "   4", "   8", "*   12", "** 15"}}, {setup(columnsFrom(0, 3)), "A  ,B  ", []string{"*A   -", "*B   -", "** -"}}, {setup(two), "  ", []string{"*   -", "** -"}}, {setup(columnsFrom(0, 3)), "A B", []string{"*A B -", "** -"}},
		// Group among Sums, equal fields, and fields that have columns in common.
		{setup(one, one), "1,1,2", []string{"*1 2", "*2 2", "** 4"}}, {detailed(setup(two, two)), "01, 1,01", []string{"01 1", "*01 1", " 1 1", "* 1 1", "01 1", "*01 1", "** 3"}}, {setup(one, columnsFrom(1, 1), columnsFrom(1, 1)), "A1,A2", []string{"*A 3 3", "** 3 3"}}, {setup(one, one, two, columnsFrom(1, 1), columnsFrom(0, 3)), "123,124", []string{"*1 2 24 4 247", "** 2 24 4 247"}},
		// J to R are the digits with a hole in the row 11; blank columns are zeros.
		{detailed(setup(one, columnsFrom(1, 2))), "A0N,A05,B1J,B 2", []string{"A -5", "A 5", "*A 0", "B -11", "B 2", "*B -9", "** -9"}}, {detailed(setup(one, columnsFrom(1, 2))), "A  ,A 7,B  ,B  ", []string{"A 0", "A 7", "*A 7", "B 0", "B 0", "*B 0", "** 7"}}, {setup(one, columnsFrom(1, 2)), "A5N,B55", []string{"*A -55", "*B 55", "** 0"}}, {setup(one, columnsFrom(1, 1)), "&R,-1,/9,0N", []string{"*& -9", "*- 1", "*/ 9", "*0 -5", "** -4"}},
		// Other columns are not looked at.
		{detailed(setup(columnsFrom(1, 1), columnsFrom(3, 1))), "1A81,2A92,3B73", []string{"A 1", "A 2", "*A 3", "B 3", "*B 3", "** 6"}}, {setup(columnsFrom(1, 1), columnsFrom(3, 1)), "XA&1,YA-2,ZBA3", []string{"*A 3", "*B 3", "** 6"}},
	} {
		lines, code := impl.TabulateDeck(x.s, listed(x.texts))
		exactly(t, fmt.Sprintf("%v of %s", x.s, x.texts), x.want, lines, code)
		checkTable(t, x.s, listed(x.texts))
	}
}

func TestSumsAndNames(t *testing.T) {
	one := columnsFrom(0, 1)
	for _, x := range []struct{ texts, names, groups, grand, breaks, cycles string }{
		{"", `[]`, "[]", "[0 0]", "0", "1"}, {"A12", `["A"]`, "[[1 2]]", "[1 2]", "0", "3"}, {"A12,A34", `["A"]`, "[[4 6]]", "[4 6]", "0", "4"}, {"A12,B34", `["A" "B"]`, "[[1 2] [3 4]]", "[4 6]", "1", "5"}, {"A12,B34,A56", `["A" "B" "A"]`, "[[1 2] [3 4] [5 6]]", "[9 12]", "2", "7"}, {"A12,A34,B56,B78", `["A" "B"]`, "[[4 6] [12 14]]", "[16 20]", "1", "7"}, {" 12,A34, 56, 11", `[" " "A" " "]`, "[[1 2] [3 4] [6 7]]", "[10 13]", "2", "8"}, {"A1J,A1K,BJ1", `["A" "B"]`, "[[2 -3] [-1 1]]", "[1 -2]", "1", "6"}, {"A  ,A 1,B1 ", `["A" "B"]`, "[[0 1] [1 0]]", "[1 1]", "1", "6"}, {"A  ,A 1", `["A"]`, "[[0 1]]", "[0 1]", "0", "4"}, {"-11,&22,/33", `["-" "&" "/"]`, "[[1 1] [2 2] [3 3]]", "[6 6]", "2", "7"},
	} {
		s, deck := setup(one, columnsFrom(1, 1), columnsFrom(2, 1)), listed(x.texts)
		checkTable(t, s, deck)
		names, _ := impl.GroupNames(s, deck)
		groups, _ := impl.GroupSums(s, deck)
		grand, _ := impl.GrandSums(s, deck)
		breaks, _ := impl.BreaksIn(s, deck)
		cycles, _ := impl.CyclesFor(detailed(s), deck)
		same(t, x.texts, strings.Join([]string{x.names, x.groups, x.grand, x.breaks, x.cycles}, " "), fmt.Sprintf("%q", names), groups, grand, breaks, cycles)
	}
	// Without Sums, there is a list without numbers for each group.
	groups, code := impl.GroupSums(setup(one), listed("A,A,B,A"))
	same(t, "no numbers", "[[] [] []] 0", groups, code)
	grand, code := impl.GrandSums(setup(one), listed("A,A,B,A"))
	same(t, "no numbers", "[] 0", grand, code)
}

// TestDecksWithoutCards checks all functions for decks without cards, for which a setup is looked at for MaxColumns columns.
func TestDecksWithoutCards(t *testing.T) {
	for _, deck := range [][]impl.Card{nil, {}} {
		for _, group := range fieldsOf(20) {
			for count := range 5 {
				for _, f := range []impl.Field{columnsFrom(0, 1), columnsFrom(8, 12), columnsFrom(19, 1), group} {
					if f.To-f.From > 12 {
						continue
					}
					s := setup(group, slices.Repeat([]impl.Field{f}, count)...)
					line := "** " + strings.Join(slices.Repeat([]string{"0"}, count), " ")
					if count == 0 {
						line = "** -"
					}
					for _, s := range []impl.Setup{s, detailed(s)} {
						returns(t, impl.OK, []any{[][]int64{}}, impl.GroupSums, "GroupSums", s, deck)
						returns(t, impl.OK, []any{[]string{}}, impl.GroupNames, "GroupNames", s, deck)
						returns(t, impl.OK, []any{make([]int64, count)}, impl.GrandSums, "GrandSums", s, deck)
						returns(t, impl.OK, []any{int64(0)}, impl.BreaksIn, "BreaksIn", s, deck)
						returns(t, impl.OK, []any{int64(1)}, impl.CyclesFor, "CyclesFor", s, deck)
						lines, code := impl.TabulateDeck(s, deck)
						exactly(t, "no cards", []string{line}, lines, code)
					}
				}
			}
		}
		for _, f := range append(wrongFields(20), columnsFrom(0, 21), columnsFrom(20, 1)) {
			allFail(t, impl.ErrRange, tabulations(setup(f), deck))
			allFail(t, impl.ErrRange, tabulations(setup(columnsFrom(0, 1), f), deck))
		}
		allFail(t, impl.ErrRange, tabulations(setup(columnsFrom(0, 1), columnsFrom(0, 13)), deck))
		allFail(t, impl.ErrRange, tabulations(setup(columnsFrom(0, 1), slices.Repeat([]impl.Field{columnsFrom(0, 1)}, 5)...), deck))
	}
}

func TestSumLine(t *testing.T) {
	for _, x := range []struct {
		sums []int64
		want string
	}{
		{nil, "-"}, {[]int64{}, "-"}, {[]int64{0}, "0"}, {[]int64{7}, "7"}, {[]int64{-7}, "-7"}, {[]int64{3, -4}, "3 -4"}, {[]int64{0, 0, 0}, "0 0 0"}, {[]int64{10, 200, -3000, 0, 5}, "10 200 -3000 0 5"}, {[]int64{math.MinInt64}, "-9223372036854775808"}, {[]int64{math.MaxInt64, math.MinInt64, 1}, "9223372036854775807 -9223372036854775808 1"}, {[]int64{-1}, "-1"}, {[]int64{999999999999, -999999999999}, "999999999999 -999999999999"},
	} {
		if got := impl.SumLine(x.sums); got != x.want {
			t.Errorf("SumLine(%v): got %q, want %q", x.sums, got, x.want)
		}
	}
	random := rand.New(rand.NewPCG(13, 1))
	for range 2000 {
		var sums []int64
		for range random.IntN(50) {
			sums = append(sums, int64(random.Uint64())>>random.IntN(64))
		}
		if got := impl.SumLine(sums); got != plainLine(sums) {
			t.Errorf("SumLine(%v): got %q", sums, got)
		}
	}
}

// TestNumbersInTabulator checks fields that have numbers and others, at each place of Sums, in each card of a deck.
func TestNumbersInTabulator(t *testing.T) {
	for _, x := range []struct{ text, want string }{
		{"   ", "0"}, {"  5", "5"}, {" 50", "50"}, {"500", "500"}, {"005", "5"}, {"000", "0"}, {"00N", "-5"}, {"  N", "-5"}, {"50J", "-501"}, {"5  ", ""}, {"5 5", ""}, {" 5 ", ""}, {"  -", ""}, {"00-", ""}, {"-05", ""}, {"N05", ""}, {"5N5", ""}, {"  &", ""}, {"  A", ""}, {"A  ", ""}, {"  S", ""}, {"10-", ""}, {"  /", ""},
	} {
		for count := 1; count <= 4; count++ {
			for place := range count {
				for _, size := range []int{1, 2, 3, 40} {
					for _, at := range []int{0, size / 2, size - 1} {
						checkNumberAt(t, x.text, x.want, count, place, size, at)
					}
				}
			}
		}
	}
	// A negative number whose last digit is 0 has the holes of the rows 0 and 11, which are those of no character.
	deck := []impl.Card{card(holesIn(1), holesIn(1), holesIn(0)|holesIn(11)), card(holesIn(1), 0, holesIn(2))}
	grand, code := impl.GrandSums(setup(columnsFrom(0, 1), columnsFrom(1, 2)), deck)
	same(t, "ten less", "[-8] 0", grand, code)
	checkTable(t, setup(columnsFrom(0, 1), columnsFrom(0, 3), columnsFrom(1, 2)), deck)
	allFail(t, impl.ErrFormat, tabulations(setup(columnsFrom(2, 1), columnsFrom(1, 2)), deck))
}

// checkNumberAt checks a field with a text at a place of Sums of a card, in a deck whose other fields have numbers. There is no number if want is empty.
func checkNumberAt(t *testing.T, text, want string, count, place, size, at int) {
	t.Helper()
	s := setup(columnsFrom(0, 1))
	for k := range count {
		s.Sums = append(s.Sums, columnsFrom(int64(1+3*k), 3))
	}
	deck := copies(size, cardOf("A"+strings.Repeat("000", count)))
	copy(deck[at].Holes[1+3*place:], cardOf(text).Holes)
	what := fmt.Sprintf("%q at %d of %d, in the card %d of %d", text, place, count, at, size)
	code := checkTable(t, s, deck)
	if want == "" {
		same(t, what, "8", code)
		return
	}
	grand, code := impl.GrandSums(s, deck)
	same(t, what, want+" 0", grand[place], code)
}

// TestFullDecksInTabulator checks decks of as many cards as there may be, with as great numbers, in one group and in as many ones as cards.
func TestFullDecksInTabulator(t *testing.T) {
	first := columnsFrom(0, 8)
	for _, x := range []struct{ text, total string }{{"999999999999", "39999999999960"}, {"99999999999R", "-39999999999960"}, {"100000000000", "4000000000000"}, {"           1", "40"}, {"            ", "0"}} {
		for _, group := range []impl.Field{first, columnsFrom(0, 20), columnsFrom(8, 12), columnsFrom(19, 1)} {
			s := setup(group, slices.Repeat([]impl.Field{columnsFrom(8, 12)}, 4)...)
			deck := copies(40, cardOf("SAMETEXT"+x.text))
			all := fmt.Sprintf("[%[1]s %[1]s %[1]s %[1]s]", x.total)
			sums, code := impl.GroupSums(s, deck)
			same(t, "one group", "["+all+"] 0", sums, code)
			grand, code := impl.GrandSums(s, deck)
			same(t, "one group", all+" 0", grand, code)
			breaks, code := impl.BreaksIn(s, deck)
			same(t, "one group", "0 0", breaks, code)
			cycles, code := impl.CyclesFor(s, deck)
			same(t, "one group", "42 0", cycles, code)
			checkTable(t, s, deck)
			checkTable(t, detailed(s), deck)
		}
	}
	deck := numbered(charMasks()...)
	s := setup(columnsFrom(0, 1), columnsFrom(1, 2))
	grand, one := impl.GrandSums(s, deck)
	breaks, two := impl.BreaksIn(s, deck)
	cycles, three := impl.CyclesFor(s, deck)
	lines, four := impl.TabulateDeck(s, deck)
	all, five := impl.TabulateDeck(detailed(s), deck)
	same(t, "forty groups", "[780] 0 39 0 81 0 41 0 81 0", grand, one, breaks, two, cycles, three, len(lines), four, len(all), five)
	checkTable(t, s, deck)
	checkTable(t, detailed(s), deck)
}

// TestErrorsOfTabulator checks the errors of all functions, and their order.
func TestErrorsOfTabulator(t *testing.T) {
	one := columnsFrom(0, 1)
	many := slices.Repeat([]impl.Field{one}, 5)
	for _, deck := range wrongDecks() {
		for _, f := range append(wrongFields(columnsOf(deck)), one, columnsFrom(0, 2)) {
			for _, s := range []impl.Setup{setup(f), setup(f, f), setup(one, f), setup(one, many...), detailed(setup(one))} {
				allFail(t, impl.ErrInvalid, tabulations(s, deck))
			}
		}
	}
	// A list that is no deck, whose first card has no character in Group, and no number.
	allFail(t, impl.ErrInvalid, tabulations(setup(columnsFrom(0, 9), one), []impl.Card{card(3), card(4096)}))
	allFail(t, impl.ErrInvalid, tabulations(setup(one, one), []impl.Card{card(3), card(9, 9)}))
	// A wrong setup is told ahead of columns without a character, and of fields without a number.
	for _, deck := range append(goodDecks(), []impl.Card{card(3)}, []impl.Card{card(3), card(9)}, listed("A,A"), listed("--,--")) {
		width := columnsOf(deck)
		for _, f := range append(wrongFields(width), columnsFrom(width-1, 2), columnsFrom(0, 21)) {
			for _, s := range []impl.Setup{setup(f), setup(f, one), setup(one, f), setup(one, one, f), setup(one, one, one, one, f)} {
				allFail(t, impl.ErrRange, tabulations(s, deck))
				allFail(t, impl.ErrRange, tabulations(detailed(s), deck))
			}
		}
		allFail(t, impl.ErrRange, tabulations(setup(one, many...), deck))
	}
	// Fields of more than 12 columns, also where they are blank.
	for width := 13; width <= 20; width++ {
		for _, deck := range [][]impl.Card{copies(3, wide(width, 0)), copies(3, wide(width, 3)), copies(3, wide(width, 4))} {
			allFail(t, impl.ErrRange, tabulations(setup(one, columnsFrom(0, int64(width))), deck))
			allFail(t, impl.ErrRange, tabulations(setup(one, columnsFrom(int64(width)-13, 13)), deck))
		}
		for _, mask := range []int64{0, 4, 3, 9} {
			checkTable(t, setup(columnsFrom(0, int64(width)), columnsFrom(0, 12), columnsFrom(int64(width)-12, 12)), copies(3, wide(width, mask)))
		}
	}
}

// TestFormatsInTabulator checks columns that have no character, as a part of Group or of a field of Sums, and outside of both.
func TestFormatsInTabulator(t *testing.T) {
	for _, mask := range illegalMasks() {
		for _, size := range []int{1, 2, 40} {
			for _, at := range []int{0, size / 2, size - 1} {
				for _, f := range fieldsOf(4) {
					deck := copies(size, cardOf("0000"))
					deck[at].Holes[2] = mask
					want := int64(impl.OK)
					if f.From <= 2 && 2 < f.To {
						want = impl.ErrFormat
					}
					same(t, "Group", fmt.Sprint(want), checkTable(t, setup(f), deck))
					same(t, "Group", fmt.Sprint(want), checkTable(t, detailed(setup(f, columnsFrom(0, 1))), deck))
					// The last column of a field may have a sign.
					if mask != holesIn(11)|holesIn(0) {
						same(t, "Sums", fmt.Sprint(want), checkTable(t, setup(columnsFrom(0, 1), f), deck))
						same(t, "Sums", fmt.Sprint(want), checkTable(t, setup(columnsFrom(1, 1), columnsFrom(0, 1), columnsFrom(3, 1), f), deck))
					}
				}
			}
		}
	}
}

// TestTabulatorOfAllKinds compares all functions for right and wrong setups and lists of cards.
func TestTabulatorOfAllKinds(t *testing.T) {
	decks := slices.Concat(goodDecks(), wrongDecks(), [][]impl.Card{listed("A1,A2,B1"), listed("11,1 , 1,11"), listed("111,121,112"), listed("1J,2K,3-"), {card(3, 4)}, {card(4, 3)}, {wide(20, 4), wide(20, 8)}})
	fields := []impl.Field{{}, columnsFrom(0, 1), columnsFrom(1, 1), columnsFrom(0, 2), columnsFrom(1, 2), columnsFrom(0, 12), columnsFrom(0, 13), columnsFrom(8, 12), columnsFrom(0, 20), columnsFrom(0, 21), columnsFrom(-1, 2), {From: 1, To: 0}, {From: math.MinInt64, To: math.MaxInt64}, {From: math.MaxInt64, To: math.MinInt64}}
	codes := map[int64]int{}
	for _, deck := range decks {
		for _, group := range fields {
			codes[checkTable(t, setup(group), deck)]++
			for _, f := range fields {
				codes[checkTable(t, setup(group, f), deck)]++
				codes[checkTable(t, detailed(setup(group, columnsFrom(0, 1), f)), deck)]++
				codes[checkTable(t, setup(group, slices.Repeat([]impl.Field{f}, 5)...), deck)]++
			}
		}
	}
	same(t, "all codes", "true true true true", codes[impl.OK] > 100, codes[impl.ErrInvalid] > 1000, codes[impl.ErrRange] > 1000, codes[impl.ErrFormat] > 100)
}

// TestAllSmallDecksInTabulator compares all functions for all small decks, whose groups begin at all places.
func TestAllSmallDecksInTabulator(t *testing.T) {
	for _, deck := range shortDecks(6, "1 R", 1) {
		for _, group := range fieldsOf(2) {
			checkTable(t, detailed(setup(group, columnsFrom(1, 1))), deck)
			checkTable(t, setup(group, columnsFrom(0, 1), columnsFrom(1, 1)), deck)
		}
	}
	for _, deck := range shortDecks(4, "1 -A", 7) {
		for _, group := range fieldsOf(2) {
			for _, f := range fieldsOf(2) {
				checkTable(t, detailed(setup(group, f)), deck)
				checkTable(t, setup(group, f, f), deck)
			}
		}
	}
}

// anyTabulation returns a valid deck and a setup that is valid for it. Its numbers begin behind Group, which has few texts.
func anyTabulation(random *rand.Rand) (impl.Setup, []impl.Card) {
	size, width := random.IntN(41), int64(2+random.IntN(19))
	group := columnsFrom(0, 1+random.Int64N(width-1))
	s := impl.Setup{Group: group, Detail: random.IntN(2) == 0}
	for range random.IntN(5) {
		s.Sums = append(s.Sums, anyNumberField(random, group.To, width))
	}
	names := anyDeck(random, 1+random.IntN(4), int(group.To), charMasks())
	var deck []impl.Card
	for range size {
		c := impl.Card{Holes: append(slices.Clone(names[random.IntN(len(names))].Holes), anyDeck(random, 1, int(width-group.To), charMasks())[0].Holes...)}
		for _, f := range s.Sums {
			copy(c.Holes[f.From:f.To], anyNumberHoles(random, int(f.To-f.From)))
		}
		deck = append(deck, c)
	}
	return s, deck
}

// anyNumberField returns a field of columns from one on, below another one.
func anyNumberField(random *rand.Rand, from, width int64) impl.Field {
	at := from + random.Int64N(width-from)
	return columnsFrom(at, 1+random.Int64N(min(12, width-at)))
}

// anyNumberHoles returns the columns of a number, with blanks or zeros in front of it.
func anyNumberHoles(random *rand.Rand, count int) []int64 {
	digits := random.IntN(count + 1)
	if digits == 0 {
		return make([]int64, count)
	}
	most := tenTo(digits)
	n := random.Int64N(2*most-1) - most + 1
	holes := numberHoles(n, digits)
	if random.IntN(2) == 0 {
		holes = numberHoles(n, count)
	}
	return append(make([]int64, count-len(holes)), holes...)
}

// TestP13 checks P13, and all functions, for random valid decks and setups. Where fields have columns in common, some cards have no number.
func TestP13(t *testing.T) {
	random := rand.New(rand.NewPCG(13, 13))
	codes, groups := map[int64]int{}, 0
	for range 4000 {
		s, deck := anyTabulation(random)
		code := checkTable(t, s, deck)
		codes[code]++
		if code != impl.OK {
			continue
		}
		sums, _ := impl.GroupSums(s, deck)
		groups += len(sums)
		checkSums(t, s, deck, sums)
	}
	same(t, "all codes", "true true true", codes[impl.OK] > 2000, codes[impl.ErrFormat] > 100, groups > 10000)
}

// checkSums checks P13, and that names, sums, breaks, lines and cycles are as many as they have to be.
func checkSums(t *testing.T, s impl.Setup, deck []impl.Card, sums [][]int64) {
	t.Helper()
	what := fmt.Sprintf("%v and %v", s, deck)
	all := make([]int64, len(s.Sums))
	for _, list := range sums {
		for place, n := range list {
			all[place] += n
		}
	}
	returns(t, impl.OK, []any{all}, impl.GrandSums, "GrandSums", s, deck)
	names, _ := impl.GroupNames(s, deck)
	same(t, "names of "+what, fmt.Sprint(len(sums)), len(names))
	begins, _ := impl.GroupsOf(deck, s.Group)
	same(t, "groups of "+what, fmt.Sprint(len(sums)), len(begins))
	breaks, _ := impl.BreaksIn(s, deck)
	if len(deck) > 0 {
		breaks++
	}
	same(t, "breaks of "+what, fmt.Sprint(len(sums)), breaks)
	plain := s
	plain.Detail = false
	few, _ := impl.TabulateDeck(plain, deck)
	many, _ := impl.TabulateDeck(detailed(s), deck)
	cycles, _ := impl.CyclesFor(s, deck)
	same(t, "lines and cycles of "+what, fmt.Sprint(len(sums)+1, len(sums)+1+len(deck), len(sums)+1+len(deck)), len(few), len(many), cycles)
}
