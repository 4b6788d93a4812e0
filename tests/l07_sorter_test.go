package tests

import (
	"fmt"
	"math"
	"math/rand/v2"
	"slices"
	"strings"
	"testing"

	"loop.example/g01012/impl"
)

// bothModes are the modes of a sorter.
var bothModes = []int64{impl.ModeDigits, impl.ModeZones}

// wrongModes are numbers that are no modes.
var wrongModes = []int64{0, 3, -1, -2, 4, 1 << 32, 1<<32 + 1, math.MinInt64, math.MinInt64 + 1, math.MaxInt64}

// by returns a pass.
func by(column, mode int64) impl.Pass { return impl.Pass{Column: column, Mode: mode} }

// hasRow reports whether a column has a hole in a row.
func hasRow(mask, row int64) bool { return mask&holesIn(row) != 0 }

// greatestDigit returns the greatest row from 1 to 9 with a hole; 0 if there is none.
func greatestDigit(mask int64) int64 {
	for row := int64(9); row > 0; row-- {
		if hasRow(mask, row) {
			return row
		}
	}
	return 0
}

// pocketIn returns the pocket of a column as the document says it.
func pocketIn(mask, mode int64) int64 {
	row := greatestDigit(mask)
	above := hasRow(mask, 11) || hasRow(mask, 12)
	switch {
	case mode == impl.ModeDigits && row > 0:
		return row
	case mode == impl.ModeDigits && hasRow(mask, 0) && !above:
		return 0
	case mode == impl.ModeDigits:
		return 12
	case hasRow(mask, 12):
		return 11
	case hasRow(mask, 11):
		return 10
	case hasRow(mask, 0) && row > 0:
		return 0
	case mask != 0:
		return 1
	}
	return 12
}

// gatheredPockets are the pockets that are gathered, in this order.
func gatheredPockets(mode int64) []int {
	if mode == impl.ModeDigits {
		return []int{12, 0, 1, 2, 3, 4, 5, 6, 7, 8, 9}
	}
	return []int{12, 11, 10, 0, 1}
}

// pocketsOf returns the cards in each pocket after a pass.
func pocketsOf(deck []impl.Card, p impl.Pass) [][]impl.Card {
	lists := make([][]impl.Card, 13)
	for _, c := range deck {
		at := pocketIn(c.Holes[p.Column], p.Mode)
		lists[at] = append(lists[at], c)
	}
	return lists
}

// gathered returns the cards of the pockets that are gathered.
func gathered(lists [][]impl.Card, mode int64) []impl.Card {
	var deck []impl.Card
	for _, at := range gatheredPockets(mode) {
		deck = append(deck, lists[at]...)
	}
	return deck
}

// afterPasses returns the deck after passes.
func afterPasses(deck []impl.Card, list ...impl.Pass) []impl.Card {
	for _, p := range list {
		deck = gathered(pocketsOf(deck, p), p.Mode)
	}
	return deck
}

// numbered returns a deck whose cards have a column with these holes, and two further columns with their numbers, so that no two cards are equal.
func numbered(masks ...int64) []impl.Card {
	var deck []impl.Card
	for k, mask := range masks {
		deck = append(deck, card(mask, holesIn(int64(k/10)), holesIn(int64(k%10))))
	}
	return deck
}

// deckOf returns the cards with the holes of texts.
func deckOf(texts ...string) []impl.Card {
	var deck []impl.Card
	for _, text := range texts {
		deck = append(deck, cardOf(text))
	}
	return deck
}

// anyDeck returns a deck of so many cards and columns, with any of some holes.
func anyDeck(random *rand.Rand, size, width int, masks []int64) []impl.Card {
	var deck []impl.Card
	for range size {
		c := card()
		for range width {
			c.Holes = append(c.Holes, masks[random.IntN(len(masks))])
		}
		deck = append(deck, c)
	}
	return deck
}

// charMasks are the holes of all characters, in the order of their ranks.
func charMasks() []int64 {
	var masks []int64
	for _, x := range alphabet() {
		masks = append(masks, x.holes)
	}
	return masks
}

// allMasks are the holes that a column can have.
func allMasks() []int64 {
	var masks []int64
	for mask := int64(0); mask <= impl.AllRows; mask++ {
		masks = append(masks, mask)
	}
	return masks
}

// goodDecks are decks of no card, of few, and of as many as there may be.
func goodDecks() [][]impl.Card {
	return [][]impl.Card{
		nil, {}, {card(0)}, {card(9), card(4), card(9)}, {card(3, 9, 4095), card(0, 0, 0)}, deckOf("B1", "A2", "B0"), someCards()[6:8],
		copies(impl.MaxDeck, card(4, 9)), copies(impl.MaxDeck, wide(impl.MaxColumns, 9)), numbered(allMasks()[:impl.MaxDeck]...),
	}
}

// wrongDecks are lists of cards that are no decks.
func wrongDecks() [][]impl.Card {
	list := [][]impl.Card{
		{{}}, {card(9), card(4096)}, {card(9, -1), card(9, 9)}, {card(9), card(9, 9)}, {card(9, 9), card(9)}, {card(9), {}},
		copies(impl.MaxDeck+1, card(9)), copies(impl.MaxDeck+1, wide(impl.MaxColumns, 0)), copies(100, card(0)),
		append(copies(impl.MaxDeck-1, card(1)), card(-1)), append(copies(impl.MaxDeck-1, card(1)), card(1, 1)), append(numbered(1, 2, 3), impl.Card{}),
	}
	for _, c := range wrongCards() {
		list = append(list, []impl.Card{c}, []impl.Card{c, c})
	}
	return list
}

// columnsOf returns how many columns the cards of a deck have, or can have if there are none.
func columnsOf(deck []impl.Card) int64 {
	if len(deck) == 0 {
		return 20
	}
	return int64(len(deck[0].Holes))
}

// rightPasses are all passes that cards with so many columns can take.
func rightPasses(width int64) []impl.Pass {
	var list []impl.Pass
	for column := range width {
		list = append(list, by(column, impl.ModeDigits), by(column, impl.ModeZones))
	}
	return list
}

// wrongPasses are passes that cards with so many columns cannot take.
func wrongPasses(width int64) []impl.Pass {
	var list []impl.Pass
	for _, column := range append(wrongColumns(width), 0, width-1, impl.MaxColumns-1, impl.MaxColumns) {
		for _, mode := range append(wrongModes, bothModes...) {
			if column < 0 || column >= width || slices.Contains(wrongModes, mode) {
				list = append(list, by(column, mode))
			}
		}
	}
	return list
}

func TestLimitsOfSorter(t *testing.T) {
	same(t, "limits", "1 2 13 10 11 12 40", impl.ModeDigits, impl.ModeZones, impl.Pockets, impl.Pocket11, impl.Pocket12, impl.PocketEnd, impl.MaxPasses)
}

func TestPocketOf(t *testing.T) {
	for _, x := range []struct {
		rows          []int64
		digits, zones int64
	}{
		{nil, 12, 12},
		{[]int64{0}, 0, 1},
		{[]int64{11}, 12, 10},
		{[]int64{12}, 12, 11},
		{[]int64{1}, 1, 1},
		{[]int64{9}, 9, 1},
		{[]int64{12, 1}, 1, 11},
		{[]int64{11, 9}, 9, 10},
		{[]int64{0, 1}, 1, 0},
		{[]int64{0, 9}, 9, 0},
		// Columns with several holes, of which most stand for no character.
		{[]int64{0, 12}, 12, 11},
		{[]int64{0, 11}, 12, 10},
		{[]int64{11, 12}, 12, 11},
		{[]int64{0, 11, 12}, 12, 11},
		{[]int64{0, 11, 5}, 5, 10},
		{[]int64{0, 12, 5}, 5, 11},
		{[]int64{11, 12, 3}, 3, 11},
		{[]int64{3, 7}, 7, 1},
		{[]int64{1, 2}, 2, 1},
		{[]int64{8, 9}, 9, 1},
		{[]int64{0, 1, 2}, 2, 0},
		{[]int64{1, 2, 3, 4, 5, 6, 7, 8, 9}, 9, 1},
		{[]int64{0, 1, 2, 3, 4, 5, 6, 7, 8, 9}, 9, 0},
		{[]int64{12, 11, 0, 1, 2, 3, 4, 5, 6, 7, 8, 9}, 9, 11},
	} {
		c := card(holesIn(x.rows...))
		digits, one := impl.PocketOf(c, by(0, impl.ModeDigits))
		zones, two := impl.PocketOf(c, by(0, impl.ModeZones))
		same(t, fmt.Sprint("pockets of a column with the rows ", x.rows), fmt.Sprint(x.digits, 0, x.zones, 0), digits, one, zones, two)
	}
}

// TestPocketOfAllHoles compares the pockets of all columns with those that the document's words give.
func TestPocketOfAllHoles(t *testing.T) {
	for mask := int64(0); mask <= impl.AllRows; mask++ {
		for column := range int64(3) {
			// The other columns have holes for other pockets.
			c := withHoles(card(impl.AllRows-mask, 16, impl.AllRows-mask), int(column), mask)
			for _, mode := range bothModes {
				if at, code := impl.PocketOf(c, by(column, mode)); code != impl.OK || at != pocketIn(mask, mode) {
					t.Errorf("PocketOf(%v, column %d, mode %d): got %d, %d, want %d", c, column, mode, at, code, pocketIn(mask, mode))
				}
			}
		}
	}
}

func TestErrorsOfPocketOf(t *testing.T) {
	for _, c := range append(someCards(), allWidths()...) {
		width := int64(len(c.Holes))
		for _, p := range rightPasses(width) {
			at, code := impl.PocketOf(c, p)
			same(t, fmt.Sprintf("PocketOf(%v, %v)", c, p), fmt.Sprint(pocketIn(c.Holes[p.Column], p.Mode), 0), at, code)
		}
		for _, p := range wrongPasses(width) {
			fails(t, impl.ErrRange, impl.PocketOf, c, p)
		}
	}
	for _, c := range append(wrongCards(), card(9, 4096), card(-1, 9)) {
		for _, p := range append(wrongPasses(int64(len(c.Holes))), rightPasses(2)...) {
			fails(t, impl.ErrInvalid, impl.PocketOf, c, p)
		}
	}
}

// checkPockets compares the pockets of a deck with the plain ones, and what is gathered from them. It checks the first part of P7.
func checkPockets(t *testing.T, deck []impl.Card, p impl.Pass) {
	t.Helper()
	lists, code := impl.SortPass(deck, p)
	want := pocketsOf(deck, p)
	if code != impl.OK || len(lists) != impl.Pockets || !slices.EqualFunc(lists, want, impl.SameDeck) {
		t.Errorf("SortPass(%v, %v): got %v, %d, want %v", deck, p, lists, code, want)
		return
	}
	for at, list := range lists {
		for _, c := range list {
			if told, code := impl.PocketOf(c, p); code != impl.OK || told != int64(at) {
				t.Errorf("the card %v is in the pocket %d of the pass %v, and PocketOf is %d, %d", c, at, p, told, code)
			}
		}
	}
	after := gathered(want, p.Mode)
	if got, code := impl.GatherCards(lists, p.Mode); code != impl.OK || !impl.SameDeck(got, after) || len(got) != len(deck) {
		t.Errorf("GatherCards of SortPass(%v, %v): got %v, %d, want %v", deck, p, got, code, after)
	}
	if got, code := impl.RunPass(deck, p); code != impl.OK || !impl.SameDeck(got, after) {
		t.Errorf("RunPass(%v, %v): got %v, %d, want %v", deck, p, got, code, after)
	}
	if got, code := impl.RunPasses(deck, []impl.Pass{p}); code != impl.OK || !impl.SameDeck(got, after) {
		t.Errorf("RunPasses(%v, %v): got %v, %d, want %v", deck, p, got, code, after)
	}
}

func TestSortPass(t *testing.T) {
	lists, code := impl.SortPass(deckOf("B1", "A2", "B0", "&-", "/ ", "C2"), by(1, impl.ModeDigits))
	same(t, "digits", fmt.Sprint(0, deckOf("B0"), deckOf("B1"), deckOf("A2", "C2"), deckOf("&-", "/ ")), code, lists[0], lists[1], lists[2], lists[12])
	lists, code = impl.SortPass(deckOf("B1", "A2", "J0", "&-", "/ ", "C2", "K0", "7A", " A", "0A"), by(0, impl.ModeZones))
	same(t, "zones", fmt.Sprint(0, deckOf("/ "), deckOf("7A", "0A"), deckOf("J0", "K0"), deckOf("B1", "A2", "&-", "C2"), deckOf(" A")), code, lists[0], lists[1], lists[10], lists[11], lists[12])
	// Without cards, there are as many pockets.
	for _, deck := range [][]impl.Card{nil, {}} {
		for _, p := range rightPasses(impl.MaxColumns) {
			lists, code := impl.SortPass(deck, p)
			same(t, fmt.Sprintf("no cards, %v", p), fmt.Sprint(make([][]impl.Card, 13), 0), lists, code)
		}
	}
}

// TestPocketsOfDecks checks P7 for small decks, for decks of each size, and for random ones.
func TestPocketsOfDecks(t *testing.T) {
	for _, deck := range goodDecks() {
		for _, p := range rightPasses(columnsOf(deck)) {
			checkPockets(t, deck, p)
		}
	}
	random := rand.New(rand.NewPCG(7, 1))
	few := []int64{0, 4, 9, 18, 3, 5, 16, impl.AllRows}
	for size := range impl.MaxDeck + 1 {
		for _, masks := range [][]int64{allMasks(), charMasks(), few, {4}, {0, 8}} {
			deck := anyDeck(random, size, 1+random.IntN(impl.MaxColumns), masks)
			for _, p := range rightPasses(columnsOf(deck))[:2] {
				checkPockets(t, deck, p)
			}
			checkPockets(t, deck, by(columnsOf(deck)-1, impl.ModeZones))
		}
		// All cards differ, so that their order is seen.
		for _, mode := range bothModes {
			checkPockets(t, numbered(allMasks()[:size]...), by(0, mode))
			checkPockets(t, numbered(slices.Repeat([]int64{8, 9, 0, 4}, 10)[:size]...), by(0, mode))
			checkPockets(t, numbered(slices.Repeat([]int64{16}, size)...), by(0, mode))
			checkPockets(t, numbered(slices.Repeat([]int64{0}, size)...), by(0, mode))
		}
	}
}

// TestErrorsOfPasses checks the errors, and their order, of the functions that run passes.
func TestErrorsOfPasses(t *testing.T) {
	for _, deck := range goodDecks() {
		right := rightPasses(columnsOf(deck))
		for _, p := range wrongPasses(columnsOf(deck)) {
			fails(t, impl.ErrRange, impl.SortPass, deck, p)
			fails(t, impl.ErrRange, impl.RunPass, deck, p)
			// One wrong pass is enough, wherever it is.
			fails(t, impl.ErrRange, impl.RunPasses, deck, []impl.Pass{p})
			fails(t, impl.ErrRange, impl.RunPasses, deck, []impl.Pass{right[0], right[1], p})
			fails(t, impl.ErrRange, impl.RunPasses, deck, []impl.Pass{p, right[0]})
			fails(t, impl.ErrRange, impl.RunPasses, deck, append(slices.Repeat(right[:1], impl.MaxPasses-1), p))
			fails(t, impl.ErrRange, impl.RunPasses, deck, append(slices.Repeat(right[:1], impl.MaxPasses), p))
		}
		fails(t, impl.ErrRange, impl.RunPasses, deck, slices.Repeat(right[:1], impl.MaxPasses+1))
		fails(t, impl.ErrRange, impl.RunPasses, deck, slices.Repeat(right[:1], 1000))
	}
	for _, deck := range wrongDecks() {
		width := columnsOf(deck)
		for _, p := range append(wrongPasses(width), rightPasses(2)...) {
			fails(t, impl.ErrInvalid, impl.SortPass, deck, p)
			fails(t, impl.ErrInvalid, impl.RunPass, deck, p)
			fails(t, impl.ErrInvalid, impl.RunPasses, deck, []impl.Pass{p})
		}
		fails(t, impl.ErrInvalid, impl.RunPasses, deck, []impl.Pass{})
		fails(t, impl.ErrInvalid, impl.RunPasses, deck, []impl.Pass(nil))
		fails(t, impl.ErrInvalid, impl.RunPasses, deck, slices.Repeat(rightPasses(1)[:1], impl.MaxPasses+1))
	}
	// Without cards, the last column of all is right, and the one behind it is not.
	for _, deck := range [][]impl.Card{nil, {}} {
		for _, mode := range bothModes {
			got, code := impl.RunPass(deck, by(impl.MaxColumns-1, mode))
			same(t, "no cards", "[] 0", got, code)
			fails(t, impl.ErrRange, impl.RunPass, deck, by(impl.MaxColumns, mode))
			fails(t, impl.ErrRange, impl.SortPass, deck, by(impl.MaxColumns, mode))
			fails(t, impl.ErrRange, impl.RunPasses, deck, []impl.Pass{by(0, mode), by(impl.MaxColumns, mode)})
		}
	}
}

// inPockets returns the lists of all pockets, of which one has cards.
func inPockets(at int, cards ...impl.Card) [][]impl.Card {
	lists := make([][]impl.Card, 13)
	lists[at] = cards
	return lists
}

func TestGatherCards(t *testing.T) {
	var lists [][]impl.Card
	for at := range 13 {
		lists = append(lists, deckOf(string("ABCDEFGHIJKLM"[at])+"1", string("ABCDEFGHIJKLM"[at])+"2"))
	}
	deck, code := impl.GatherCards(lists, impl.ModeDigits)
	same(t, "digits", fmt.Sprint(deckOf("M1", "M2", "A1", "A2", "B1", "B2", "C1", "C2", "D1", "D2", "E1", "E2", "F1", "F2", "G1", "G2", "H1", "H2", "I1", "I2", "J1", "J2"), 0), deck, code)
	deck, code = impl.GatherCards(lists, impl.ModeZones)
	same(t, "zones", fmt.Sprint(deckOf("M1", "M2", "L1", "L2", "K1", "K2", "A1", "A2", "B1", "B2"), 0), deck, code)
	for at := range 13 {
		for _, mode := range bothModes {
			// Cards in a pocket that is not gathered are left out; they need not be those that a pass sends there.
			for _, cards := range [][]impl.Card{nil, {}, deckOf("A1"), deckOf("Z9", "A1", "Z9"), copies(impl.MaxDeck, card(3, 0))} {
				want := cards
				if !slices.Contains(gatheredPockets(mode), at) {
					want = nil
				}
				deck, code := impl.GatherCards(inPockets(at, cards...), mode)
				same(t, fmt.Sprintf("cards in the pocket %d, mode %d", at, mode), fmt.Sprint(want, 0), deck, code)
			}
		}
	}
	for _, mode := range bothModes {
		deck, code := impl.GatherCards(make([][]impl.Card, 13), mode)
		same(t, "empty pockets", "[] 0", deck, code)
		// As many cards as a deck may have, in all pockets together.
		for one := range 13 {
			two := (one + 5) % 13
			full := inPockets(one, copies(impl.MaxDeck-1, card(9))...)
			full[two] = copies(1, card(4))
			deck, code := impl.GatherCards(full, mode)
			same(t, "a full deck", fmt.Sprint(gathered(full, mode), 0), deck, code)
		}
	}
}

func TestErrorsOfGatherCards(t *testing.T) {
	modes := append(wrongModes, bothModes...)
	for _, count := range []int{0, 1, 2, 11, 12, 14, 26, 40} {
		for _, mode := range modes {
			fails(t, impl.ErrInvalid, impl.GatherCards, make([][]impl.Card, count), mode)
			fails(t, impl.ErrInvalid, impl.GatherCards, slices.Repeat([][]impl.Card{{card(9)}}, count), mode)
		}
	}
	for _, mode := range modes {
		fails(t, impl.ErrInvalid, impl.GatherCards, [][]impl.Card(nil), mode)
		for one := range 13 {
			// Also in a pocket that is left out, all must be cards.
			for _, deck := range wrongDecks() {
				fails(t, impl.ErrInvalid, impl.GatherCards, inPockets(one, deck...), mode)
			}
			two := (one + 5) % 13
			different := inPockets(one, card(9))
			different[two] = copies(1, card(9, 9))
			fails(t, impl.ErrInvalid, impl.GatherCards, different, mode)
			many := inPockets(one, copies(impl.MaxDeck, card(9))...)
			many[two] = copies(1, card(9))
			fails(t, impl.ErrInvalid, impl.GatherCards, many, mode)
			many = slices.Repeat([][]impl.Card{copies(3, card(9))}, 13)
			many[one] = copies(5, card(9))
			fails(t, impl.ErrInvalid, impl.GatherCards, many, mode)
		}
	}
	for _, mode := range wrongModes {
		fails(t, impl.ErrRange, impl.GatherCards, make([][]impl.Card, 13), mode)
		for at := range 13 {
			fails(t, impl.ErrRange, impl.GatherCards, inPockets(at, card(9), card(4)), mode)
			fails(t, impl.ErrRange, impl.GatherCards, inPockets(at, copies(impl.MaxDeck, card(9))...), mode)
		}
	}
}

func TestRunPasses(t *testing.T) {
	digit, zone := by(0, impl.ModeDigits), by(0, impl.ModeZones)
	for _, x := range []struct {
		texts, want string
		list        []impl.Pass
	}{
		{"B1 A2 B0", "B1 A2 B0", nil},
		{"B1 A2 B0", "B1 A2 B0", []impl.Pass{}},
		{"B1 A2 B0", "B0 B1 A2", []impl.Pass{by(1, impl.ModeDigits)}},
		{"B1 A2 B0", "A2 B1 B0", []impl.Pass{digit}},
		{"B1 A2 B0", "B1 A2 B0", []impl.Pass{zone}},
		{"B1 A2 B0", "A2 B0 B1", []impl.Pass{by(1, impl.ModeDigits), digit, zone}},
		{"B1 A2 B0", "A2 B1 B0", []impl.Pass{by(1, impl.ModeZones), digit, zone}},
		// The order of the passes matters.
		{"J1 A1 B1 2K", "A1 J1 B1 2K", []impl.Pass{zone, digit}},
		{"J1 A1 B1 2K", "A1 B1 J1 2K", []impl.Pass{digit, zone}},
		{"9 0 Z / R - A & 1 S J I", "& A I - J R / S Z 0 1 9", []impl.Pass{digit, zone}},
	} {
		deck, code := impl.RunPasses(deckOf(strings.Fields(x.texts)...), x.list)
		same(t, fmt.Sprintf("%q after %v", x.texts, x.list), fmt.Sprint(deckOf(strings.Fields(x.want)...), 0), deck, code)
	}
}

// TestPassesOfOneColumn checks the example of the chapter: a pass with ModeDigits and then one with ModeZones sort by one column.
func TestPassesOfOneColumn(t *testing.T) {
	random := rand.New(rand.NewPCG(7, 2))
	list := []impl.Pass{by(0, impl.ModeDigits), by(0, impl.ModeZones)}
	for size := range impl.MaxDeck + 1 {
		masks := charMasks()
		random.Shuffle(len(masks), func(a, b int) { masks[a], masks[b] = masks[b], masks[a] })
		for _, deck := range [][]impl.Card{numbered(masks[:size]...), numbered(slices.Repeat(masks[:3], impl.MaxDeck)[:size]...)} {
			sorted, one := impl.SortedBy(deck, impl.Field{From: 0, To: 1})
			run, two := impl.RunPasses(deck, list)
			if one != impl.OK || two != impl.OK || !impl.SameDeck(run, sorted) || !impl.SameDeck(run, sortedPlainly(deck, impl.Field{From: 0, To: 1})) {
				t.Errorf("passes of one column of %v: got %v, %d, sorted %v, %d", deck, run, two, sorted, one)
			}
		}
	}
}

func TestRunPassesOneAfterTheOther(t *testing.T) {
	random := rand.New(rand.NewPCG(7, 3))
	for turn := range 300 {
		width := 1 + random.IntN(impl.MaxColumns)
		deck := anyDeck(random, turn%(impl.MaxDeck+1), width, [][]int64{allMasks(), charMasks(), {0, 4, 9, 16, 3}}[turn%3])
		var list []impl.Pass
		for range []int{0, 1, 2, 3, impl.MaxPasses - 1, impl.MaxPasses}[turn%6] {
			list = append(list, by(int64(random.IntN(width)), bothModes[random.IntN(2)]))
		}
		want := afterPasses(deck, list...)
		if got, code := impl.RunPasses(deck, list); code != impl.OK || !impl.SameDeck(got, want) {
			t.Errorf("RunPasses(%v, %v): got %v, %d, want %v", deck, list, got, code, want)
		}
	}
}

// orderedBefore reports whether the field of a card is less than that of another one.
func orderedBefore(a, b impl.Card, f impl.Field) bool {
	for k := f.From; k < f.To; k++ {
		if one, two := rankOfHoles(a.Holes[k]), rankOfHoles(b.Holes[k]); one != two {
			return one < two
		}
	}
	return false
}

// orderPlainly returns the places from which the cards of the sorted deck come: each card goes before the first one that is greater.
func orderPlainly(deck []impl.Card, f impl.Field) []int64 {
	var order []int64
	for k, c := range deck {
		at := slices.IndexFunc(order, func(other int64) bool { return orderedBefore(c, deck[other], f) })
		if at < 0 {
			at = len(order)
		}
		order = slices.Insert(order, at, int64(k))
	}
	return order
}

// sortedPlainly returns the deck in this order.
func sortedPlainly(deck []impl.Card, f impl.Field) []impl.Card {
	var sorted []impl.Card
	for _, k := range orderPlainly(deck, f) {
		sorted = append(sorted, deck[k])
	}
	return sorted
}

// firstStep returns the first card that is less than the one before it; -1 if there is none.
func firstStep(deck []impl.Card, f impl.Field) int64 {
	for k := range deck {
		if k > 0 && orderedBefore(deck[k], deck[k-1], f) {
			return int64(k)
		}
	}
	return -1
}

// checkSorted compares the sorted deck and its order with the plain ones, and checks the second part of P7.
func checkSorted(t *testing.T, deck []impl.Card, f impl.Field) {
	t.Helper()
	order, code := impl.OrderBy(deck, f)
	if want := orderPlainly(deck, f); code != impl.OK || !slices.Equal(order, want) {
		t.Fatalf("OrderBy(%v, %v): got %v, %d, want %v", deck, f, order, code, want)
	}
	sorted, code := impl.SortedBy(deck, f)
	if want := sortedPlainly(deck, f); code != impl.OK || !impl.SameDeck(sorted, want) {
		t.Fatalf("SortedBy(%v, %v): got %v, %d, want %v", deck, f, sorted, code, want)
	}
	for k, from := range order {
		if !impl.SameCard(sorted[k], deck[from]) {
			t.Errorf("SortedBy(%v, %v): the card %d is not that from %d", deck, f, k, from)
		}
		if k == 0 {
			continue
		}
		compared, code := impl.CompareFields(deck[order[k-1]], deck[from], f)
		if code != impl.OK || compared > 0 || compared == 0 && order[k-1] > from {
			t.Errorf("OrderBy(%v, %v): %v is not in order, or not stable, at %d", deck, f, order, k)
		}
	}
	for _, list := range [][]impl.Card{deck, sorted} {
		want := firstStep(list, f)
		step, one := impl.FirstStep(list, f)
		is, two := impl.IsSorted(list, f)
		same(t, fmt.Sprintf("steps of %v, %v", list, f), fmt.Sprint(want, 0, want < 0, 0), step, one, is, two)
	}
	is, code := impl.IsSorted(sorted, f)
	same(t, "a sorted deck", "true 0", is, code)
}

// fieldsOf are all fields of cards with so many columns.
func fieldsOf(width int64) []impl.Field {
	var list []impl.Field
	for from := range width {
		for to := from + 1; to <= width; to++ {
			list = append(list, impl.Field{From: from, To: to})
		}
	}
	return list
}

func TestSortedBy(t *testing.T) {
	for _, x := range []struct {
		texts, want, order string
		from, to           int64
	}{
		{"B1 A2 B0", "A2 B1 B0", "[1 0 2]", 0, 1},
		{"B1 A2 B0", "B0 B1 A2", "[2 0 1]", 1, 2},
		{"B1 A2 B0", "A2 B0 B1", "[1 2 0]", 0, 2},
		// Cards that are equal, in the field only or in all columns, keep their order.
		{"B1 A1 B1 A1", "B1 A1 B1 A1", "[0 1 2 3]", 1, 2},
		{"B1 A1 B1 A1", "A1 A1 B1 B1", "[1 3 0 2]", 0, 2},
		{"AZ AY AX", "AZ AY AX", "[0 1 2]", 0, 1},
		{"A1Z B1A A0B", "A0B A1Z B1A", "[2 0 1]", 0, 2},
		{"A1Z B1A A0B", "A0B A1Z B1A", "[2 0 1]", 1, 2},
		{"A1Z B1A A0B", "B1A A0B A1Z", "[1 2 0]", 2, 3},
		// The order of characters is that of their ranks, not of bytes or of holes.
		{"0 Z / R J - I A &", "& A I - J R / Z 0", "[8 7 6 5 4 3 2 1 0]", 0, 1},
		{"9 1 0 A", "A 0 1 9", "[3 2 1 0]", 0, 1},
		{"A", "A", "[0]", 0, 1},
	} {
		f := impl.Field{From: x.from, To: x.to}
		deck := deckOf(strings.Fields(x.texts)...)
		sorted, one := impl.SortedBy(deck, f)
		order, two := impl.OrderBy(deck, f)
		same(t, fmt.Sprintf("%q by %v", x.texts, f), fmt.Sprint(deckOf(strings.Fields(x.want)...), 0, " "+x.order+" ", 0), sorted, one, order, two)
	}
	sorted, one := impl.SortedBy(deckOf("A1", " 2", "&0"), impl.Field{From: 0, To: 1})
	same(t, "blanks are first", fmt.Sprint(deckOf(" 2", "&0", "A1"), 0), sorted, one)
	for _, deck := range [][]impl.Card{nil, {}} {
		for _, f := range fieldsOf(impl.MaxColumns) {
			sorted, one := impl.SortedBy(deck, f)
			order, two := impl.OrderBy(deck, f)
			is, three := impl.IsSorted(deck, f)
			step, four := impl.FirstStep(deck, f)
			same(t, fmt.Sprintf("no cards by %v", f), "[] 0 [] 0 true 0 -1 0", sorted, one, order, two, is, three, step, four)
		}
	}
}

// TestSortedDecks checks P7 for decks of all sizes and kinds.
func TestSortedDecks(t *testing.T) {
	for _, cards := range [][]impl.Card{cardsOf(1, 0, 1, 9, 4, 8), cardsOf(2, 0, 9)} {
		for _, one := range cards {
			for _, two := range cards {
				for _, three := range cards {
					for _, f := range fieldsOf(columnsOf(cards)) {
						checkSorted(t, []impl.Card{one, two, three}, f)
					}
				}
			}
		}
	}
	random := rand.New(rand.NewPCG(7, 4))
	for size := range impl.MaxDeck + 1 {
		for _, masks := range [][]int64{charMasks(), {1, 2}, {0, 4, 9, 12}, {16}} {
			deck := anyDeck(random, size, 1+random.IntN(5), masks)
			for _, f := range fieldsOf(min(5, columnsOf(deck))) {
				checkSorted(t, deck, f)
			}
		}
		checkSorted(t, numbered(charMasks()[:size]...), impl.Field{From: 0, To: 3})
		checkSorted(t, anyDeck(random, size, impl.MaxColumns, []int64{0, 1}), impl.Field{From: 0, To: impl.MaxColumns})
		// Columns that are no characters are of no matter outside of the field.
		deck := anyDeck(random, size, 3, illegalMasks())
		for k := range deck {
			deck[k].Holes[1] = charMasks()[random.IntN(40)]
		}
		checkSorted(t, deck, impl.Field{From: 1, To: 2})
	}
}

func TestSteps(t *testing.T) {
	whole := impl.Field{From: 0, To: 1}
	for size := 1; size <= impl.MaxDeck; size++ {
		for at := range size {
			// One card is less than those before it, and so are some of those behind it than others.
			deck := numbered(slices.Repeat([]int64{4}, size)...)
			deck[at].Holes[0] = 9
			for k := at + 1; k < size; k++ {
				deck[k].Holes[0] = []int64{16, 1, 0}[k%3]
			}
			want := firstStep(deck, whole)
			if at > 0 && want != int64(at) {
				t.Fatalf("the deck %v has its first step at %d", deck, want)
			}
			step, one := impl.FirstStep(deck, whole)
			is, two := impl.IsSorted(deck, whole)
			same(t, fmt.Sprintf("steps of %v", deck), fmt.Sprint(want, 0, want < 0, 0), step, one, is, two)
		}
	}
	for _, x := range []struct {
		texts, want string
	}{
		{"A", "-1 0 true 0"}, {"A A A", "-1 0 true 0"}, {"A B C", "-1 0 true 0"}, {"A Z 0 9", "-1 0 true 0"}, {"& - / 0", "-1 0 true 0"},
		{"B A", "1 0 false 0"}, {"A B A C", "2 0 false 0"}, {"A B C A", "3 0 false 0"}, {"B A C A", "1 0 false 0"}, {"0 Z", "1 0 false 0"}, {"A &", "1 0 false 0"},
	} {
		deck := deckOf(strings.Fields(x.texts)...)
		step, one := impl.FirstStep(deck, whole)
		is, two := impl.IsSorted(deck, whole)
		same(t, "steps of "+x.texts, x.want, step, one, is, two)
	}
}

// sortings are the functions with a deck and a field.
func sortings() []any {
	return []any{impl.OrderBy, impl.SortedBy, impl.IsSorted, impl.FirstStep}
}

// TestErrorsOfSorting checks the errors, and their order, of these functions.
func TestErrorsOfSorting(t *testing.T) {
	for _, f := range sortings() {
		for _, deck := range goodDecks() {
			// A wrong field is told ahead of a column without a character.
			for _, field := range wrongFields(columnsOf(deck)) {
				fails(t, impl.ErrRange, f, deck, field)
			}
		}
		for _, deck := range wrongDecks() {
			for _, field := range append(wrongFields(columnsOf(deck)), impl.Field{From: 0, To: 1}, impl.Field{From: 0, To: 2}) {
				fails(t, impl.ErrInvalid, f, deck, field)
			}
		}
		for _, mask := range illegalMasks() {
			for _, size := range []int{1, 2, 3, impl.MaxDeck} {
				for at := range size {
					deck := numbered(slices.Repeat([]int64{9, 1}, size)[:size]...)
					deck[at].Holes[1] = mask
					// It is told also behind the first step, and behind the column that decides.
					for _, field := range fieldsOf(3) {
						if field.From <= 1 && 1 < field.To {
							fails(t, impl.ErrFormat, f, deck, field)
						} else if got := call(f, deck, field); got[1] != int64(impl.OK) {
							t.Errorf("%v by %v: got %v", deck, field, got)
						}
					}
				}
			}
		}
	}
}

func TestPassText(t *testing.T) {
	digit, zone := by(1, impl.ModeDigits), by(0, impl.ModeZones)
	for _, x := range []struct {
		list []impl.Pass
		want string
	}{
		{nil, ""},
		{[]impl.Pass{}, ""},
		{[]impl.Pass{digit}, "1d"},
		{[]impl.Pass{zone}, "0z"},
		{[]impl.Pass{digit, by(0, impl.ModeDigits), zone}, "1d 0d 0z"},
		{[]impl.Pass{zone, zone}, "0z 0z"},
		{[]impl.Pass{by(19, impl.ModeZones), by(20, impl.ModeDigits)}, "19z 20d"},
		{[]impl.Pass{by(-1, impl.ModeZones), by(-120, impl.ModeDigits)}, "-1z -120d"},
		{[]impl.Pass{by(math.MinInt64, impl.ModeZones), by(math.MaxInt64, impl.ModeDigits)}, "-9223372036854775808z 9223372036854775807d"},
		{slices.Repeat([]impl.Pass{digit}, impl.MaxPasses+1), strings.TrimSpace(strings.Repeat("1d ", 41))},
	} {
		same(t, fmt.Sprintf("PassText(%v)", x.list), x.want, impl.PassText(x.list))
	}
	for _, mode := range wrongModes {
		for _, column := range []int64{0, 1, -1, math.MinInt64} {
			p := by(column, mode)
			for _, list := range [][]impl.Pass{{p}, {p, digit}, {digit, p}, {digit, p, zone}, {zone, digit, p}, {p, p}} {
				same(t, fmt.Sprintf("PassText(%v)", list), "", impl.PassText(list))
			}
		}
	}
}
