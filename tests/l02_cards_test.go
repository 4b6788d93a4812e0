package tests

import (
	"math"
	"slices"
	"strings"
	"testing"

	"loop.example/g01012/impl"
)

// rowsFromAbove are the rows in the order of their bits.
var rowsFromAbove = []int64{12, 11, 0, 1, 2, 3, 4, 5, 6, 7, 8, 9}

// otherRows are numbers that are no rows.
var otherRows = []int64{-1, 10, 13, 14, 64, -12, 1 << 32, math.MinInt64, math.MaxInt64}

// someCards are valid cards, the narrowest and the widest ones included.
func someCards() []impl.Card {
	return []impl.Card{
		card(0), card(9), card(impl.AllRows), card(9, 0), card(9, 32, 4), card(0, 4095, 1, 2048, 1024, 2),
		wide(impl.MaxColumns, 0), wide(impl.MaxColumns, impl.AllRows), wide(impl.MaxColumns-1, 1365),
	}
}

// wrongCards are cards that are not valid.
func wrongCards() []impl.Card {
	return []impl.Card{
		{}, card([]int64{}...), card(-1), card(impl.AllRows + 1), card(0, -1), card(0, 4096, 0), card(math.MinInt64), card(1, math.MaxInt64),
		wide(impl.MaxColumns+1, 0), wide(1000, 1), wide(impl.MaxColumns, -1), card(append(wide(impl.MaxColumns-1, 9).Holes, 4096)...),
	}
}

func TestLimitsOfCards(t *testing.T) {
	same(t, "limits", "20 40 12 4095", impl.MaxColumns, impl.MaxDeck, impl.Rows, impl.AllRows)
}

func TestValidCard(t *testing.T) {
	for _, c := range someCards() {
		if !impl.ValidCard(c) {
			t.Errorf("ValidCard(%v): false", c)
		}
	}
	for _, c := range wrongCards() {
		if impl.ValidCard(c) {
			t.Errorf("ValidCard(%v): true", c)
		}
	}
	for width := range 30 {
		if got, want := impl.ValidCard(wide(width, 5)), 1 <= width && width <= 20; got != want {
			t.Errorf("ValidCard of %d columns: %v", width, got)
		}
	}
	for mask := int64(-20); mask <= 5000; mask++ {
		if got, want := impl.ValidCard(card(0, mask)), 0 <= mask && mask <= 4095; got != want {
			t.Errorf("ValidCard with the holes %d: %v", mask, got)
		}
	}
}

func TestSameCard(t *testing.T) {
	all := append(someCards(), wrongCards()...)
	for i, a := range all {
		for j, b := range all {
			if got, want := impl.SameCard(a, b), slices.Equal(a.Holes, b.Holes); got != want {
				t.Errorf("SameCard(%v, %v), the cards %d and %d: %v", a, b, i, j, got)
			}
		}
	}
	same(t, "cards with and without a list", "true true", impl.SameCard(impl.Card{}, card([]int64{}...)), impl.SameCard(card([]int64{}...), impl.Card{}))
	same(t, "beginnings", "false false false", impl.SameCard(card(1), card(1, 0)), impl.SameCard(card(1, 0), card(1)), impl.SameCard(card(1, 2), card(2, 1)))
}

func TestValidDeck(t *testing.T) {
	decks := [][]impl.Card{nil, {}, {card(9)}, {card(9), card(4)}, {card(9), card(9)}, copies(impl.MaxDeck, card(1, 2)), copies(impl.MaxDeck, wide(impl.MaxColumns, impl.AllRows))}
	for _, deck := range decks {
		if !impl.ValidDeck(deck) {
			t.Errorf("ValidDeck(%v): false", deck)
		}
	}
	others := [][]impl.Card{
		copies(impl.MaxDeck+1, card(1)), copies(500, card(1)),
		{card(9), card(9, 0)}, {card(9, 0), card(9)}, {card(9), card(9), card(9, 0)},
		{{}}, {{}, {}}, {card(9), {}}, {{}, card(9)},
		{wide(impl.MaxColumns+1, 0)}, copies(2, wide(impl.MaxColumns+1, 0)),
		append(copies(impl.MaxDeck-1, card(1)), card(4096)), append(copies(impl.MaxDeck-1, card(1)), card(1, 1)),
	}
	for _, c := range wrongCards() {
		others = append(others, []impl.Card{c}, []impl.Card{c, c}, []impl.Card{card(9), c}, []impl.Card{wide(len(c.Holes), 0), c})
	}
	for _, deck := range others {
		if impl.ValidDeck(deck) {
			t.Errorf("ValidDeck(%v): true", deck)
		}
	}
}

func TestSameDeck(t *testing.T) {
	decks := [][]impl.Card{nil, {}, {card(9)}, {card(9), card(4)}, {card(4), card(9)}, {card(9), card(4, 0)}, {{}}, {card(-1)}, {card(9), card(-1)}, copies(41, card(9)), copies(42, card(9))}
	for i, a := range decks {
		for j, b := range decks {
			if got, want := impl.SameDeck(a, b), i == j || i < 2 && j < 2; got != want {
				t.Errorf("SameDeck(%v, %v): %v", a, b, got)
			}
		}
		if !impl.SameDeck(a, slices.Clone(a)) {
			t.Errorf("SameDeck of %v and a copy: false", a)
		}
	}
	same(t, "decks with and without lists", "true", impl.SameDeck([]impl.Card{{}}, []impl.Card{card([]int64{}...)}))
}

func TestBlankCard(t *testing.T) {
	for width := int64(1); width <= impl.MaxColumns; width++ {
		c, code := impl.BlankCard(width)
		if code != impl.OK || !impl.SameCard(c, wide(int(width), 0)) {
			t.Errorf("BlankCard(%d): got %v, %d", width, c, code)
		}
	}
	for _, width := range []int64{0, -1, -20, impl.MaxColumns + 1, 1 << 40, math.MinInt64, math.MaxInt64} {
		c, code := impl.BlankCard(width)
		if code != impl.ErrRange || len(c.Holes) != 0 {
			t.Errorf("BlankCard(%d): got %v, %d", width, c, code)
		}
	}
}

func TestBitOf(t *testing.T) {
	for place, row := range rowsFromAbove {
		bit, code := impl.BitOf(row)
		if code != impl.OK || bit != 1<<place {
			t.Errorf("BitOf(%d): got %d, %d", row, bit, code)
		}
	}
	for row := int64(-100); row <= 100; row++ {
		_, code := impl.BitOf(row)
		if (code == impl.OK) != slices.Contains(rowsFromAbove, row) {
			t.Errorf("BitOf(%d): code %d", row, code)
		}
	}
	for _, row := range otherRows {
		bit, code := impl.BitOf(row)
		if code != impl.ErrRange || bit != 0 {
			t.Errorf("BitOf(%d): got %d, %d", row, bit, code)
		}
	}
}

// TestPunchHole checks P2: after PunchHole the hole is there, and only it is new.
func TestPunchHole(t *testing.T) {
	for _, c := range someCards() {
		for column := range c.Holes {
			for place, row := range rowsFromAbove {
				punched, code := impl.PunchHole(c, int64(column), row)
				if c.Holes[column]>>place&1 == 1 {
					if code != impl.ErrExists || len(punched.Holes) != 0 {
						t.Errorf("PunchHole(%v, %d, %d), which is there: got %v, %d", c, column, row, punched, code)
					}
					continue
				}
				want := card(slices.Clone(c.Holes)...)
				want.Holes[column] += 1 << place
				if code != impl.OK || !impl.SameCard(punched, want) {
					t.Errorf("PunchHole(%v, %d, %d): got %v, %d", c, column, row, punched, code)
				}
				has, code := impl.HasHole(punched, int64(column), row)
				same(t, "the hole that was punched", "true 0", has, code)
				_, code = impl.PunchHole(punched, int64(column), row)
				same(t, "punching it again", "4", code)
			}
		}
	}
}

func TestHasHoleForAllHoles(t *testing.T) {
	for mask := int64(0); mask <= impl.AllRows; mask++ {
		for place, row := range rowsFromAbove {
			has, code := impl.HasHole(card(0, mask), 1, row)
			if code != impl.OK || has != (mask>>place&1 == 1) {
				t.Fatalf("HasHole, row %d of the holes %d: got %v, %d", row, mask, has, code)
			}
		}
	}
	// The other columns of a card tell nothing about this one.
	has, code := impl.HasHole(card(impl.AllRows, 0, impl.AllRows), 1, 9)
	same(t, "a column between full ones", "false 0", has, code)
}

func TestErrorsOfHoles(t *testing.T) {
	for _, f := range []any{impl.PunchHole, impl.HasHole} {
		check := func(c impl.Card, column, row, want int64) {
			t.Helper()
			got := call(f, c, column, row)
			if got[1] != want || !zeroButCode(got) {
				t.Errorf("%v, %d, %d: got %v, want the code %d", c, column, row, got, want)
			}
		}
		for _, c := range someCards() {
			width := int64(len(c.Holes))
			for _, column := range []int64{-1, width, width + 1, math.MinInt64, math.MaxInt64} {
				check(c, column, 5, impl.ErrRange)
				check(c, column, 10, impl.ErrRange)
			}
			for _, row := range otherRows {
				check(c, 0, row, impl.ErrRange)
				check(c, width-1, row, impl.ErrRange)
			}
		}
		for _, c := range wrongCards() {
			for _, column := range []int64{0, -1, 20, math.MaxInt64} {
				check(c, column, 0, impl.ErrInvalid)
				check(c, column, 10, impl.ErrInvalid)
			}
		}
	}
	// A full card tells ErrRange ahead of ErrExists.
	_, code := impl.PunchHole(card(impl.AllRows), 1, 0)
	same(t, "a column behind a full one", "2", code)
	_, code = impl.PunchHole(card(impl.AllRows), 0, 10)
	same(t, "no row of a full column", "2", code)
}

func TestCountHoles(t *testing.T) {
	for _, c := range someCards() {
		want := int64(0)
		for _, mask := range c.Holes {
			for ; mask > 0; mask /= 2 {
				want += mask % 2
			}
		}
		n, code := impl.CountHoles(c)
		if code != impl.OK || n != want {
			t.Errorf("CountHoles(%v): got %d, %d, want %d", c, n, code, want)
		}
	}
	n, code := impl.CountHoles(wide(impl.MaxColumns, impl.AllRows))
	same(t, "a full card", "240 0", n, code)
	for _, c := range wrongCards() {
		n, code := impl.CountHoles(c)
		if n != 0 || code != impl.ErrInvalid {
			t.Errorf("CountHoles(%v): got %d, %d", c, n, code)
		}
	}
}

func TestPartOf(t *testing.T) {
	for _, c := range someCards() {
		width := int64(len(c.Holes))
		for from := int64(-2); from <= width+2; from++ {
			for to := int64(-2); to <= width+2; to++ {
				part, code := impl.PartOf(c, impl.Field{From: from, To: to})
				if 0 <= from && from < to && to <= width {
					if code != impl.OK || !slices.Equal(part.Holes, c.Holes[from:to]) {
						t.Errorf("PartOf(%v, %d-%d): got %v, %d", c, from, to, part, code)
					}
				} else if code != impl.ErrRange || len(part.Holes) != 0 {
					t.Errorf("PartOf(%v, %d-%d): got %v, %d", c, from, to, part, code)
				}
			}
		}
		for _, f := range []impl.Field{{From: math.MinInt64, To: 1}, {From: 0, To: math.MaxInt64}, {From: math.MaxInt64, To: math.MinInt64}, {From: math.MinInt64, To: math.MaxInt64}} {
			part, code := impl.PartOf(c, f)
			if code != impl.ErrRange || len(part.Holes) != 0 {
				t.Errorf("PartOf(%v, %v): got %v, %d", c, f, part, code)
			}
		}
	}
	for _, c := range wrongCards() {
		for _, f := range []impl.Field{{From: 0, To: 1}, {}, {From: -1, To: 50}} {
			part, code := impl.PartOf(c, f)
			if code != impl.ErrInvalid || len(part.Holes) != 0 {
				t.Errorf("PartOf(%v, %v): got %v, %d", c, f, part, code)
			}
		}
	}
}

// TestOverlay checks P2: an overlay has the holes of both cards, and no others.
func TestOverlay(t *testing.T) {
	cards := append(someCards(), card(4), card(4095, 1), card(1, 1, 1), card(6, 6, 6), wide(impl.MaxColumns, 2730))
	for _, a := range cards {
		for _, b := range cards {
			both, code := impl.Overlay(a, b)
			if len(a.Holes) != len(b.Holes) {
				if code != impl.ErrState || len(both.Holes) != 0 {
					t.Errorf("Overlay(%v, %v): got %v, %d", a, b, both, code)
				}
				continue
			}
			if code != impl.OK || len(both.Holes) != len(a.Holes) {
				t.Fatalf("Overlay(%v, %v): got %v, %d", a, b, both, code)
			}
			checkOverlay(t, a, b, both)
		}
	}
	for _, a := range wrongCards() {
		for _, b := range append(someCards(), wrongCards()...) {
			x, one := impl.Overlay(a, b)
			y, two := impl.Overlay(b, a)
			if one != impl.ErrInvalid || two != impl.ErrInvalid || len(x.Holes)+len(y.Holes) != 0 {
				t.Errorf("Overlay of %v and %v: got %v, %d; %v, %d", a, b, x, one, y, two)
			}
		}
	}
}

// checkOverlay holds each hole of an overlay against those of both cards.
func checkOverlay(t *testing.T, a, b, both impl.Card) {
	t.Helper()
	for column := range both.Holes {
		for _, row := range rowsFromAbove {
			one, _ := impl.HasHole(a, int64(column), row)
			two, _ := impl.HasHole(b, int64(column), row)
			has, code := impl.HasHole(both, int64(column), row)
			if code != impl.OK || has != (one || two) {
				t.Errorf("Overlay(%v, %v), column %d, row %d: got %v, %d", a, b, column, row, has, code)
			}
		}
	}
}

func TestCardPicture(t *testing.T) {
	lines, code := impl.CardPicture(card(9, 0, 4095, 2048, 6))
	same(t, "a card", "o.o.. ..o.o ..o.o o.o.. ..o.. ..o.. ..o.. ..o.. ..o.. ..o.. ..o.. ..oo. 0", strings.Join(lines, " "), code)
	for _, c := range someCards() {
		lines, code := impl.CardPicture(c)
		if code != impl.OK || len(lines) != impl.Rows {
			t.Fatalf("CardPicture(%v): got %q, %d", c, lines, code)
		}
		for place, row := range rowsFromAbove {
			want := ""
			for column := range c.Holes {
				has, _ := impl.HasHole(c, int64(column), row)
				want += map[bool]string{true: "o", false: "."}[has]
			}
			if lines[place] != want {
				t.Errorf("CardPicture(%v), row %d: got %q, want %q", c, row, lines[place], want)
			}
		}
	}
	for _, c := range wrongCards() {
		lines, code := impl.CardPicture(c)
		if code != impl.ErrInvalid || len(lines) != 0 {
			t.Errorf("CardPicture(%v): got %q, %d", c, lines, code)
		}
	}
}
