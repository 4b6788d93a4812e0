package tests

import (
	"cmp"
	"fmt"
	"math"
	"math/rand/v2"
	"slices"
	"strings"
	"testing"

	"loop.example/g01012/impl"
)

// planFor returns the full plan of a field as the document says it.
func planFor(f impl.Field) []impl.Pass {
	var plan []impl.Pass
	for k := range f.To - f.From {
		plan = append(plan, by(f.To-1-k, impl.ModeDigits), by(f.To-1-k, impl.ModeZones))
	}
	return plan
}

// isIdle reports whether all cards have the same pocket in a pass.
func isIdle(deck []impl.Card, p impl.Pass) bool {
	for _, cards := range pocketsOf(deck, p) {
		if len(cards) > 0 && len(cards) < len(deck) {
			return false
		}
	}
	return true
}

// shortened returns the full plan without the passes that are idle for a deck.
func shortened(deck []impl.Card, f impl.Field) []impl.Pass {
	return slices.DeleteFunc(planFor(f), func(p impl.Pass) bool { return isIdle(deck, p) })
}

// sortsPlainly reports whether a deck is sorted after passes.
func sortsPlainly(deck []impl.Card, f impl.Field, list []impl.Pass) bool {
	return impl.SameDeck(afterPasses(deck, list...), sortedPlainly(deck, f))
}

// A choice are the places, in the full plan, of the passes of a part of it.
type choice []int

// passes returns the passes of the part.
func (c choice) passes(f impl.Field) []impl.Pass {
	var list []impl.Pass
	full := planFor(f)
	for _, at := range c {
		list = append(list, full[at])
	}
	return list
}

// choices returns all parts of a plan of so many passes, those that are to be preferred first.
func choices(count int) []choice {
	var all []choice
	for set := range 1 << count {
		var one choice
		for at := range count {
			if set>>at&1 == 1 {
				one = append(one, at)
			}
		}
		all = append(all, one)
	}
	slices.SortFunc(all, func(a, b choice) int { return cmp.Or(cmp.Compare(len(a), len(b)), slices.Compare(a, b)) })
	return all
}

// choicesThatSort returns all parts of the full plan that sort a deck, those that are to be preferred first.
func choicesThatSort(deck []impl.Card, f impl.Field) []choice {
	var found []choice
	sorted := sortedPlainly(deck, f)
	for _, c := range choices(int(2 * (f.To - f.From))) {
		if impl.SameDeck(afterPasses(deck, c.passes(f)...), sorted) {
			found = append(found, c)
		}
	}
	return found
}

// fieldsUpTo are the fields of cards with so many columns that have at most so many columns.
func fieldsUpTo(width, most int64) []impl.Field {
	return slices.DeleteFunc(fieldsOf(width), func(f impl.Field) bool { return f.To-f.From > most })
}

// reversed returns the passes in the opposite order.
func reversed(list []impl.Pass) []impl.Pass {
	list = slices.Clone(list)
	slices.Reverse(list)
	return list
}

// words returns the passes with a text like that of PassText.
func words(text string) []impl.Pass {
	var list []impl.Pass
	for _, word := range strings.Fields(text) {
		var column int64
		var letter byte
		if n, err := fmt.Sscanf(word, "%d%c", &column, &letter); n != 2 || err != nil {
			panic("no pass: " + word)
		}
		list = append(list, by(column, map[byte]int64{'d': impl.ModeDigits, 'z': impl.ModeZones}[letter]))
	}
	return list
}

func TestLimitOfPlanField(t *testing.T) { same(t, "limit", "4", impl.MaxPlanField) }

// TestFullPlan checks both plans for all fields.
func TestFullPlan(t *testing.T) {
	for _, x := range []struct {
		from, to     int64
		full, digits string
	}{
		{0, 1, "0d 0z", "0d"},
		{0, 2, "1d 1z 0d 0z", "1d 0d"},
		{2, 5, "4d 4z 3d 3z 2d 2z", "4d 3d 2d"},
		{19, 20, "19d 19z", "19d"},
		{18, 20, "19d 19z 18d 18z", "19d 18d"},
	} {
		full, one := impl.FullPlan(impl.Field{From: x.from, To: x.to})
		digits, two := impl.DigitPlan(impl.Field{From: x.from, To: x.to})
		same(t, fmt.Sprintf("plans of the columns %d to %d", x.from, x.to), fmt.Sprint(words(x.full), 0, words(x.digits), 0), full, one, digits, two)
	}
	for _, f := range fieldsOf(impl.MaxColumns) {
		full, one := impl.FullPlan(f)
		digits, two := impl.DigitPlan(f)
		want := planFor(f)
		if one != impl.OK || !slices.Equal(full, want) {
			t.Errorf("FullPlan(%v): got %v, %d, want %v", f, full, one, want)
		}
		want = slices.DeleteFunc(want, func(p impl.Pass) bool { return p.Mode != impl.ModeDigits })
		if two != impl.OK || !slices.Equal(digits, want) {
			t.Errorf("DigitPlan(%v): got %v, %d, want %v", f, digits, two, want)
		}
	}
	full, code := impl.FullPlan(impl.Field{From: 0, To: impl.MaxColumns})
	same(t, "passes of the widest field", fmt.Sprint(impl.MaxPasses, 0), len(full), code)
}

// TestFullPlanOfOneColumn checks the example of the chapter.
func TestFullPlanOfOneColumn(t *testing.T) {
	for column := range int64(impl.MaxColumns) {
		full, code := impl.FullPlan(impl.Field{From: column, To: column + 1})
		same(t, "the full plan of one column", fmt.Sprint([]impl.Pass{by(column, 1), by(column, 2)}, 0), full, code)
	}
}

// badFields are fields of no columns, or of columns that no card has.
func badFields() []impl.Field {
	list := wrongFields(impl.MaxColumns)
	for _, one := range edges() {
		for _, two := range append(edges(), 4, 5) {
			if one < 0 || one >= two || two > 20 {
				list = append(list, impl.Field{From: one, To: two})
			}
		}
	}
	return list
}

func TestErrorsOfFullPlan(t *testing.T) {
	for _, f := range badFields() {
		fails(t, impl.ErrRange, impl.FullPlan, f)
		fails(t, impl.ErrRange, impl.DigitPlan, f)
	}
	for _, f := range []impl.Field{{From: 0, To: 20}, {From: 19, To: 20}, {From: 0, To: 1}} {
		full, one := impl.FullPlan(f)
		digits, two := impl.DigitPlan(f)
		same(t, "the outermost fields", fmt.Sprint(2*(f.To-f.From), 0, f.To-f.From, 0), len(full), one, len(digits), two)
	}
	for _, f := range []impl.Field{{From: 0, To: 21}, {From: 20, To: 21}, {From: 20, To: 20}, {From: 0, To: 0}, {From: -1, To: 20}, {From: 5, To: 4}} {
		fails(t, impl.ErrRange, impl.FullPlan, f)
		fails(t, impl.ErrRange, impl.DigitPlan, f)
	}
}

func TestIsIdlePass(t *testing.T) {
	for _, x := range []struct {
		deck []impl.Card
		idle string
	}{
		{deckOf("A1"), "0d 0z 1d 1z"},
		{deckOf("A1", "A1", "A1"), "0d 0z 1d 1z"},
		// Cards that differ in one column, in the digit, in the zone, or in both.
		{deckOf("A1", "B1"), "0z 1d 1z"},
		{deckOf("A1", "J1"), "0d 1d 1z"},
		{deckOf("A1", "K1"), "1d 1z"},
		{deckOf("A1", "A1", "A2"), "0d 0z 1z"},
		{deckOf("B1", "A2", "B0"), "0z 1z"},
		{deckOf("B1", "J1", "S1"), "1d 1z"},
		{deckOf("BZ", "KI", "S9"), "0d 1d"},
		{deckOf("0/", "9A"), "0z 1d"},
		{deckOf(" &", "&-"), "0d 1d"},
		{deckOf("&0", " 1"), "0d 1z"},
		// Columns that differ and have the same pocket in both modes; they have no characters.
		{[]impl.Card{card(holesIn(3, 7), 0), card(holesIn(7), 0), card(holesIn(1, 2, 7), 0)}, "0d 0z 1d 1z"},
		{[]impl.Card{card(holesIn(11, 12), 9), card(holesIn(12), 9), card(holesIn(0, 12), 9)}, "0d 0z 1d 1z"},
		{[]impl.Card{card(holesIn(0, 9), 4095), card(4092, 2048+9)}, "0d 0z 1d 1z"},
		{[]impl.Card{card(holesIn(0, 1, 2), 4095), card(holesIn(0, 2), 4094)}, "0d 0z 1d"},
		{copies(impl.MaxDeck, card(4095, 3)), "0d 0z 1d 1z"},
		{append(copies(impl.MaxDeck-1, card(4095, 3)), card(4095, 16)), "0d 0z"},
		{append(copies(impl.MaxDeck-1, card(9, 3)), card(16, 3)), "1d 1z"},
		{slices.Insert(copies(impl.MaxDeck-1, card(9, 3)), 20, card(10, 3)), "0d 1d 1z"},
	} {
		var idle []impl.Pass
		for _, p := range words("0d 0z 1d 1z") {
			is, code := impl.IsIdlePass(x.deck, p)
			same(t, fmt.Sprintf("IsIdlePass(%v, %v)", x.deck, p), fmt.Sprint(isIdle(x.deck, p), 0), is, code)
			if is {
				idle = append(idle, p)
			}
		}
		if want := words(x.idle); !slices.Equal(idle, want) {
			t.Errorf("idle passes of %v: got %v, want %v", x.deck, idle, want)
		}
	}
	for _, deck := range [][]impl.Card{nil, {}} {
		for _, p := range rightPasses(impl.MaxColumns) {
			idle, code := impl.IsIdlePass(deck, p)
			same(t, fmt.Sprintf("no cards, %v", p), "true 0", idle, code)
		}
	}
}

// TestIdlePassesOfPairs compares columns with all holes with some others.
func TestIdlePassesOfPairs(t *testing.T) {
	for _, one := range append(illegalMasks(), charMasks()...) {
		for two := int64(0); two <= impl.AllRows; two++ {
			deck := []impl.Card{card(7, one), card(two, two)}
			for _, mode := range bothModes {
				want := pocketIn(one, mode) == pocketIn(two, mode)
				if idle, code := impl.IsIdlePass(deck, by(1, mode)); code != impl.OK || idle != want {
					t.Fatalf("IsIdlePass(%v, mode %d): got %v, %d, want %v", deck, mode, idle, code, want)
				}
			}
		}
	}
}

func TestErrorsOfIsIdlePass(t *testing.T) {
	for _, deck := range goodDecks() {
		for _, p := range wrongPasses(columnsOf(deck)) {
			fails(t, impl.ErrRange, impl.IsIdlePass, deck, p)
		}
		for _, p := range rightPasses(columnsOf(deck)) {
			idle, code := impl.IsIdlePass(deck, p)
			same(t, fmt.Sprintf("IsIdlePass(%v, %v)", deck, p), fmt.Sprint(isIdle(deck, p), 0), idle, code)
		}
	}
	for _, deck := range wrongDecks() {
		for _, p := range append(wrongPasses(columnsOf(deck)), rightPasses(2)...) {
			fails(t, impl.ErrInvalid, impl.IsIdlePass, deck, p)
		}
	}
}

// A deckWithField is a deck, and the field by which it is to be sorted.
type deckWithField struct {
	deck  []impl.Card
	field impl.Field
}

// smallDecks are all decks of at most three cards of few kinds, with all their fields.
func smallDecks() []deckWithField {
	var list []deckWithField
	for _, kinds := range [][]impl.Card{cardsOf(1, 0, 1, 4, 9, 16, 18), deckOf("A1", "A2", "B1", "J1", "J2"), deckOf("A1", "BJ", "JB", " 0")} {
		for _, f := range fieldsOf(columnsOf(kinds)) {
			list = append(list, deckWithField{nil, f}, deckWithField{[]impl.Card{}, f})
			for _, a := range kinds {
				list = append(list, deckWithField{[]impl.Card{a}, f})
				for _, b := range kinds {
					list = append(list, deckWithField{[]impl.Card{a, b}, f})
					for _, c := range kinds {
						list = append(list, deckWithField{[]impl.Card{a, b, c}, f})
					}
				}
			}
		}
	}
	return list
}

// someField returns a field of at most so many columns.
func someField(random *rand.Rand, width, most int64) impl.Field {
	fields := fieldsUpTo(width, most)
	return fields[random.IntN(len(fields))]
}

// someHoles are the holes of characters that differ in the digit, in the zone, or in both.
func someHoles(turn int) []int64 {
	texts := []string{allChars(), "AB", "AJ", "AK", "BJ1", "ABJK", " &-0", "0123456789", "S/12", "A B", "BJ"}
	return cardOf(texts[turn%len(texts)]).Holes
}

// laterDecks are decks whose cards are equal in the first columns of the field and differ in later ones, or the other way round.
func laterDecks(random *rand.Rand, count int) []deckWithField {
	var list []deckWithField
	for turn := range count {
		width := 2 + int64(random.IntN(4))
		f := someField(random, width, impl.MaxPlanField)
		deck := anyDeck(random, 1+random.IntN(6), int(width), someHoles(turn))
		at := f.From + int64(random.IntN(int(f.To-f.From)))
		for _, c := range deck {
			for column := range width {
				if turn%2 == 0 && column < at || turn%2 == 1 && column > at {
					c.Holes[column] = deck[0].Holes[column]
				}
			}
		}
		list = append(list, deckWithField{deck, f})
	}
	return list
}

// anyDecks are random decks with fields of at most so many columns. Some are sorted but for two cards.
func anyDecks(random *rand.Rand, count int, most int64) []deckWithField {
	var list []deckWithField
	for turn := range count {
		width := 1 + int64(random.IntN(6))
		f := someField(random, width, most)
		size := []int{0, 1, 2, 2, 3, 4, 5, 8, 20, impl.MaxDeck}[random.IntN(10)]
		deck := anyDeck(random, size, int(width), someHoles(turn))
		if size > 1 && turn%3 == 0 {
			deck = sortedPlainly(deck, f)
			one, two := random.IntN(size), random.IntN(size)
			deck[one], deck[two] = deck[two], deck[one]
		}
		list = append(list, deckWithField{deck, f})
	}
	return list
}

// deepDecks are random decks that need many passes: many cards are equal in the first columns.
func deepDecks(random *rand.Rand, count int) []deckWithField {
	var list []deckWithField
	for turn := range count {
		width := 2 + random.IntN(3)
		deck := anyDeck(random, 4+random.IntN(impl.MaxDeck-3), width, someHoles(turn))
		for k := range deck {
			copy(deck[k].Holes, deck[random.IntN(k+1)].Holes[:random.IntN(width)])
		}
		list = append(list, deckWithField{deck, impl.Field{From: 0, To: int64(width)}})
	}
	return list
}

// checkShort compares the short plan with the plain one.
func checkShort(t *testing.T, deck []impl.Card, f impl.Field) {
	t.Helper()
	short, code := impl.ShortPlan(deck, f)
	if want := shortened(deck, f); code != impl.OK || !slices.Equal(short, want) {
		t.Errorf("ShortPlan(%v, %v): got %v, %d, want %v", deck, f, short, code, want)
	}
}

func TestShortPlan(t *testing.T) {
	for _, x := range []struct {
		texts    string
		from, to int64
		want     string
	}{
		{"A1", 0, 2, ""},
		{"A1 A1 A1", 0, 2, ""},
		{"A1 B1", 0, 2, "0d"},
		{"A1 J1", 0, 2, "0z"},
		{"A1 K1", 0, 2, "0d 0z"},
		{"K1 A1", 0, 2, "0d 0z"},
		{"A1 A2", 0, 2, "1d"},
		{"A1 A2", 0, 1, ""},
		{"A1 B2", 0, 2, "1d 0d"},
		{"B1 A2 B0", 0, 1, "0d"},
		{"B1 A2 B0", 1, 2, "1d"},
		{"A1X A1Y A2X", 0, 3, "2d 1d"},
		{"A1X J1Y A2X", 0, 3, "2d 1d 0z"},
		{"A1X J1Y A2X", 1, 2, "1d"},
		// A sorted deck, too, has passes that are not idle.
		{"A B C J K", 0, 1, "0d 0z"},
	} {
		deck, f := deckOf(strings.Fields(x.texts)...), impl.Field{From: x.from, To: x.to}
		short, code := impl.ShortPlan(deck, f)
		same(t, fmt.Sprintf("ShortPlan of %s, %v", x.texts, f), fmt.Sprint(words(x.want), 0), short, code)
	}
	for _, deck := range [][]impl.Card{nil, {}, {wide(impl.MaxColumns, 9)}, copies(impl.MaxDeck, wide(impl.MaxColumns, 9))} {
		for _, f := range fieldsOf(impl.MaxColumns) {
			short, code := impl.ShortPlan(deck, f)
			same(t, fmt.Sprintf("ShortPlan of %d equal cards, %v", len(deck), f), "[] 0", short, code)
		}
	}
	random := rand.New(rand.NewPCG(8, 1))
	for _, x := range slices.Concat(smallDecks(), laterDecks(random, 500), anyDecks(random, 500, impl.MaxColumns)) {
		checkShort(t, x.deck, x.field)
	}
	for range 20 {
		deck := anyDeck(random, impl.MaxDeck, impl.MaxColumns, charMasks())
		checkShort(t, deck, impl.Field{From: 0, To: impl.MaxColumns})
		short, code := impl.ShortPlan(deck, impl.Field{From: 0, To: impl.MaxColumns})
		same(t, "passes of the widest field", fmt.Sprint(impl.MaxPasses, 0), len(short), code)
		// Columns outside of the field need no characters.
		for _, c := range deck {
			c.Holes[0], c.Holes[3] = 3, illegalMasks()[random.IntN(15)]
		}
		checkShort(t, deck, impl.Field{From: 1, To: 3})
		checkShort(t, deck, impl.Field{From: 4, To: impl.MaxColumns})
	}
}

// plannings are the functions with a deck and a field.
func plannings() []any { return []any{impl.ShortPlan, impl.FewestPasses} }

// wrongDecksWithFields are lists of cards that are no decks, with fields that would be right or wrong.
func wrongDecksWithFields() []deckWithField {
	var list []deckWithField
	for _, deck := range wrongDecks() {
		for _, f := range append(wrongFields(columnsOf(deck)), impl.Field{From: 0, To: 1}, impl.Field{From: 0, To: 2}, impl.Field{From: 0, To: 5}) {
			list = append(list, deckWithField{deck, f})
		}
	}
	return list
}

// TestErrorsOfPlannings checks ErrInvalid, ErrRange and ErrFormat, in this order, of these functions.
func TestErrorsOfPlannings(t *testing.T) {
	for _, planning := range plannings() {
		for _, x := range wrongDecksWithFields() {
			fails(t, impl.ErrInvalid, planning, x.deck, x.field)
		}
		for _, deck := range goodDecks() {
			// Some of these decks have columns without characters, and some of these fields have more than MaxPlanField columns.
			for _, f := range wrongFields(columnsOf(deck)) {
				fails(t, impl.ErrRange, planning, deck, f)
			}
		}
		for _, mask := range illegalMasks() {
			for _, size := range []int{1, 2, impl.MaxDeck} {
				for at := range size {
					deck := copies(size, wide(6, 9))
					deck[at].Holes[2] = mask
					for _, f := range fieldsOf(6) {
						if f.From <= 2 && 2 < f.To {
							// This is told ahead of too many columns.
							fails(t, impl.ErrFormat, planning, deck, f)
						}
					}
				}
			}
		}
	}
}

// checkPlan compares what is told about passes with what they do.
func checkPlan(t *testing.T, deck []impl.Card, f impl.Field, list []impl.Pass) bool {
	t.Helper()
	is, code := impl.IsPlanFor(deck, f, list)
	want := sortsPlainly(deck, f, list)
	if code != impl.OK || is != want {
		t.Errorf("IsPlanFor(%v, %v, %v): got %v, %d, want %v", deck, f, list, is, code, want)
	}
	run, one := impl.RunPasses(deck, list)
	sorted, two := impl.SortedBy(deck, f)
	if one != impl.OK || two != impl.OK || impl.SameDeck(run, sorted) != is {
		t.Errorf("IsPlanFor(%v, %v, %v) is %v, but RunPasses gives %v, and SortedBy %v", deck, f, list, is, run, sorted)
	}
	return is
}

func TestIsPlanFor(t *testing.T) {
	for _, x := range []struct {
		texts    string
		from, to int64
		passes   string
		want     bool
	}{
		{"B1 A2 B0", 0, 1, "0d 0z", true},
		{"B1 A2 B0", 0, 1, "0d", true},
		{"B1 A2 B0", 0, 1, "0z", false},
		{"B1 A2 B0", 0, 1, "", false},
		{"A2 B1 B0", 0, 1, "", true},
		{"A2 B1 B0", 0, 2, "", false},
		// The zone counts more than the digit.
		{"J B", 0, 1, "0d 0z", true},
		{"J B", 0, 1, "0z 0d", false},
		{"J B", 0, 1, "0z", true},
		{"J B", 0, 1, "0d", false},
		{"B J", 0, 1, "", true},
		{"B J", 0, 1, "0d", false},
		// Later columns count less than earlier ones.
		{"A2 B1", 0, 2, "", true},
		{"A2 B1", 0, 2, "1d 1z 0d 0z", true},
		{"A2 B1", 0, 2, "0d 0z 1d 1z", false},
		{"A2 B1", 0, 2, "1d", false},
		{"A2 B1", 0, 2, "1d 0d", true},
		{"B1 A2", 0, 2, "0d", true},
		{"B1 A2", 0, 2, "0d 1d", false},
		{"B1 A2", 0, 2, "1d 0d", true},
		// Cards that are equal in the first column and differ in the second one, and the other way round.
		{"A2 A1", 0, 2, "1d 1z 0d 0z", true},
		{"A2 A1", 0, 2, "0d 0z 1d 1z", true},
		{"A2 A1", 0, 2, "0d 0z", false},
		{"A2 A1", 0, 2, "1z 0d 0z", false},
		{"A2 A1", 0, 1, "0d 0z", true},
		{"B1 A1", 0, 2, "1d 1z", false},
		{"B1 A1", 0, 2, "0d 1d 0z 1z", true},
		{"B1 A1", 1, 2, "1d 1z", true},
		{"AB1 AA2", 0, 3, "2d 1d", true},
		{"AB1 AA2", 0, 3, "1d 2d", false},
		{"AB1 AB0 AA2", 0, 3, "2d 1d", true},
		{"AB1 AB0 AA2", 0, 3, "1d", false},
		{"AB1 AB0 AA2", 0, 2, "1d", true},
		// Passes over columns outside of the field move cards with equal fields, and are outweighed by later ones.
		{"A2 A1", 0, 1, "1d", false},
		{"A2 A1", 0, 1, "1d 0d 0z", false},
		{"A2 A1", 0, 1, "0d 0z 1d", false},
		{"A2 A1", 0, 1, "1z 0d 0z 1z", true},
		{"A1 A2", 0, 1, "1d 0d 0z 1d", true},
		{"B1 A2", 0, 1, "1d 0d", true},
		{"B1 A2", 0, 1, "0d 1d", false},
		{"B1 A2", 0, 1, "0d 1d 0d", true},
		{"B2 A1", 0, 1, "1d", true},
		{"BX1 AX2", 0, 2, "0d 2z 1z", true},
		{"BX1 AX2", 0, 2, "2d 0d", true},
		{"BX1 AX2", 0, 2, "0d 2d", false},
	} {
		deck, f := deckOf(strings.Fields(x.texts)...), impl.Field{From: x.from, To: x.to}
		if is := checkPlan(t, deck, f, words(x.passes)); is != x.want {
			t.Errorf("IsPlanFor of %s, %v and %s: got %v", x.texts, f, x.passes, is)
		}
	}
}

// TestPlansOfDecks compares many passes for many decks.
func TestPlansOfDecks(t *testing.T) {
	random := rand.New(rand.NewPCG(8, 2))
	for _, x := range slices.Concat(smallDecks(), laterDecks(random, 300), anyDecks(random, 200, impl.MaxColumns), deepDecks(random, 100)) {
		full, short := planFor(x.field), shortened(x.deck, x.field)
		if !checkPlan(t, x.deck, x.field, full) || !checkPlan(t, x.deck, x.field, short) {
			t.Errorf("a full or a short plan does not sort %v by %v", x.deck, x.field)
		}
		checkPlan(t, x.deck, x.field, nil)
		checkPlan(t, x.deck, x.field, reversed(full))
		for at := range full {
			checkPlan(t, x.deck, x.field, slices.Delete(slices.Clone(full), at, at+1))
		}
		width := min(4, columnsOf(x.deck))
		for _, p := range rightPasses(width) {
			checkPlan(t, x.deck, x.field, append([]impl.Pass{p}, full...)[:min(impl.MaxPasses, len(full)+1)])
			checkPlan(t, x.deck, x.field, append(slices.Clone(short), p))
		}
		var list []impl.Pass
		for range random.IntN(impl.MaxPasses + 1) {
			list = append(list, by(int64(random.IntN(int(width))), bothModes[random.IntN(2)]))
		}
		checkPlan(t, x.deck, x.field, list)
		checkPlan(t, x.deck, x.field, append(list, full...)[max(0, len(list)+len(full)-impl.MaxPasses):])
	}
}

func TestManyPassesOfPlans(t *testing.T) {
	random := rand.New(rand.NewPCG(8, 3))
	whole := impl.Field{From: 0, To: impl.MaxColumns}
	for range 10 {
		deck := anyDeck(random, impl.MaxDeck, impl.MaxColumns, charMasks())
		full := planFor(whole)
		if !checkPlan(t, deck, whole, full) || len(full) != impl.MaxPasses {
			t.Errorf("the full plan %v does not sort %v", full, deck)
		}
		fails(t, impl.ErrRange, impl.IsPlanFor, deck, whole, append(full, full[0]))
		first := impl.Field{From: 0, To: 1}
		last := append(slices.Repeat(words("3d"), impl.MaxPasses-2), words("0d 0z")...)
		checkPlan(t, deck, first, last)
		fails(t, impl.ErrRange, impl.IsPlanFor, deck, first, append(words("3d"), last...))
		// Columns outside of the field need no characters, also if a pass looks at them.
		for k, c := range deck {
			c.Holes[3] = illegalMasks()[random.IntN(15)]
			c.Holes[5] = illegalMasks()[k%15]
		}
		checkPlan(t, deck, first, last)
		checkPlan(t, deck, first, words("5d 5z 3z 0d 0z"))
		checkPlan(t, deck, first, words("0d 0z 5d 3z"))
	}
	// The first pass of all decides.
	for _, size := range []int{2, impl.MaxDeck} {
		deck := numbered(slices.Repeat([]int64{16, 9}, size/2)...)
		idle := slices.Repeat(words("1z"), impl.MaxPasses-1)
		if !checkPlan(t, deck, impl.Field{From: 0, To: 1}, append(words("0z"), idle...)) || checkPlan(t, deck, impl.Field{From: 0, To: 1}, append(idle, by(1, 2))) {
			t.Errorf("a pass, and idle passes behind it: wrong for %v", deck)
		}
	}
	for _, deck := range [][]impl.Card{nil, {}} {
		for _, list := range [][]impl.Pass{nil, {}, words("19d"), slices.Repeat(words("19z"), impl.MaxPasses)} {
			is, code := impl.IsPlanFor(deck, whole, list)
			same(t, fmt.Sprintf("IsPlanFor of no cards and %v", list), "true 0", is, code)
		}
	}
}

func TestErrorsOfIsPlanFor(t *testing.T) {
	first, many := impl.Field{From: 0, To: 1}, slices.Repeat(words("0d"), impl.MaxPasses+1)
	for _, x := range wrongDecksWithFields() {
		for _, list := range [][]impl.Pass{nil, {}, words("0d 0z"), words("0d 20z"), {by(0, 3)}, many, slices.Repeat(many, 10)} {
			fails(t, impl.ErrInvalid, impl.IsPlanFor, x.deck, x.field, list)
		}
	}
	illegal := copies(3, card(3, 9, 4095))
	for _, deck := range append(goodDecks(), illegal) {
		right := rightPasses(columnsOf(deck))
		// All of these are told ahead of a column without a character.
		for _, f := range wrongFields(columnsOf(deck)) {
			for _, list := range [][]impl.Pass{nil, {}, right, {by(0, 3)}, many} {
				fails(t, impl.ErrRange, impl.IsPlanFor, deck, f, list)
			}
		}
		for _, p := range wrongPasses(columnsOf(deck)) {
			for _, list := range [][]impl.Pass{{p}, {p, right[0]}, {right[0], right[1], p}, append(slices.Repeat(right[:1], impl.MaxPasses-1), p), append(slices.Repeat(right[:1], impl.MaxPasses), p)} {
				fails(t, impl.ErrRange, impl.IsPlanFor, deck, first, list)
			}
		}
		fails(t, impl.ErrRange, impl.IsPlanFor, deck, first, many)
		fails(t, impl.ErrRange, impl.IsPlanFor, deck, first, slices.Repeat(many, 10))
	}
	for _, mask := range illegalMasks() {
		for _, size := range []int{1, 2, impl.MaxDeck} {
			for at := range size {
				deck := numbered(slices.Repeat([]int64{9}, size)...)
				deck[at].Holes[1] = mask
				for _, f := range fieldsOf(3) {
					for _, list := range [][]impl.Pass{nil, words("0d"), words("1d 1z 0d 0z"), slices.Repeat(words("1z"), impl.MaxPasses)} {
						if f.From <= 1 && 1 < f.To {
							fails(t, impl.ErrFormat, impl.IsPlanFor, deck, f, list)
						} else if got := call(impl.IsPlanFor, deck, f, list); got[1] != int64(impl.OK) {
							t.Errorf("IsPlanFor(%v, %v, %v): got %v", deck, f, list, got)
						}
					}
				}
			}
		}
	}
}

func TestFewestPasses(t *testing.T) {
	for _, x := range []struct {
		texts    string
		from, to int64
		want     string
	}{
		{"A1", 0, 2, ""},
		{"A1 A1", 0, 2, ""},
		{"A1 A2 B0 J1", 0, 2, ""},
		{"B1 A2 B0", 0, 1, "0d"},
		{"B1 A2 B0", 1, 2, "1d"},
		{"B1 A2 B0", 0, 2, "1d 0d"},
		{"J B", 0, 1, "0z"},
		{"K B J", 0, 1, "0d 0z"},
		// A deck that is sorted needs no pass, although no pass is idle.
		{"A B J K", 0, 1, ""},
		{"A2 B1", 0, 2, ""},
		// The first one of several.
		{"B2 A1", 0, 2, "1d"},
		{"K A", 0, 1, "0d"},
		{"BB2 AA1", 0, 3, "2d"},
		{"KK AA", 0, 2, "1d"},
		{"J1 A1", 0, 2, "0z"},
		{"JJ AA", 0, 2, "1z"},
		{"BA AB", 0, 2, "0d"},
		{"JA AJ", 0, 2, "0z"},
		{"A2 A1 B1 A0", 0, 2, "1d 0d"},
		// The first one of two passes each: the column 2 and then the column 0 before the column 1 and then the column 0.
		{"ABB AAA BAA AAA", 0, 3, "2d 0d"},
		// Later columns.
		{"AAAB AAAA", 0, 4, "3d"},
		{"BAAA AAAB", 0, 4, "0d"},
		{"AAAB AAAA BAAA ABAA", 0, 4, "3d 1d 0d"},
		{"AB AA BA", 0, 2, "1d 0d"},
		{"AAAA AAAK AAAB", 0, 4, "3z"},
		{"AAAA AAAJ AAAB", 0, 4, "3z"},
		{"AAAA AAAK AAAB AAAJ", 0, 4, "3d 3z"},
		{"ABJK AAAA ABJJ", 1, 3, "2z"},
	} {
		deck, f := deckOf(strings.Fields(x.texts)...), impl.Field{From: x.from, To: x.to}
		few, code := impl.FewestPasses(deck, f)
		same(t, fmt.Sprintf("FewestPasses of %s, %v", x.texts, f), fmt.Sprint(words(x.want), 0), few, code)
	}
	for _, deck := range [][]impl.Card{nil, {}, {wide(impl.MaxColumns, 9)}, copies(impl.MaxDeck, wide(impl.MaxColumns, 9))} {
		for _, f := range fieldsUpTo(impl.MaxColumns, impl.MaxPlanField) {
			few, code := impl.FewestPasses(deck, f)
			same(t, fmt.Sprintf("FewestPasses of %d equal cards, %v", len(deck), f), "[] 0", few, code)
		}
	}
}

// checkFewest compares the fewest passes of a deck with a plain search, and checks P8. It returns how many parts of the full plan with as few passes there are.
func checkFewest(t *testing.T, deck []impl.Card, f impl.Field) int {
	t.Helper()
	sorted, _ := impl.SortedBy(deck, f)
	full, one := impl.FullPlan(f)
	short, two := impl.ShortPlan(deck, f)
	few, three := impl.FewestPasses(deck, f)
	if one != impl.OK || two != impl.OK || three != impl.OK || len(few) > len(short) {
		t.Errorf("plans of %v, %v: got %v, %d, %v, %d, %v, %d", deck, f, full, one, short, two, few, three)
	}
	for _, list := range [][]impl.Pass{full, short, few} {
		if run, code := impl.RunPasses(deck, list); code != impl.OK || !impl.SameDeck(run, sorted) {
			t.Errorf("RunPasses(%v, %v): got %v, %d, sorted by %v: %v", deck, list, run, code, f, sorted)
		}
	}
	found := choicesThatSort(deck, f)
	if want := found[0].passes(f); !slices.Equal(few, want) {
		t.Errorf("FewestPasses(%v, %v): got %v, want %v", deck, f, few, want)
	}
	return slices.IndexFunc(append(found, make(choice, 100)), func(c choice) bool { return len(c) > len(few) })
}

// TestFewestOfDecks checks P8 for small decks, random ones, and decks that differ in some columns only.
func TestFewestOfDecks(t *testing.T) {
	random := rand.New(rand.NewPCG(8, 4))
	// How many decks have one or several parts with as few passes, by the number of these passes.
	var single, several [9]int
	for k, x := range slices.Concat(smallDecks(), laterDecks(random, 400), anyDecks(random, 400, impl.MaxPlanField), deepDecks(random, 600)) {
		count := checkFewest(t, x.deck, x.field)
		few, _ := impl.FewestPasses(x.deck, x.field)
		if count == 1 {
			single[len(few)]++
		} else {
			several[len(few)]++
		}
		if k%7 != 0 {
			continue
		}
		// The same as above, but with IsPlanFor of all parts with fewer passes.
		for _, c := range choices(int(2 * (x.field.To - x.field.From))) {
			if is, code := impl.IsPlanFor(x.deck, x.field, c.passes(x.field)); len(c) < len(few) && (is || code != impl.OK) {
				t.Errorf("FewestPasses(%v, %v): got %v, but IsPlanFor of %v is %v, %d", x.deck, x.field, few, c.passes(x.field), is, code)
			}
		}
	}
	// The decks are of all these kinds.
	for passes := range 9 {
		if single[passes] == 0 || several[passes] == 0 && 0 < passes && passes < 7 {
			t.Errorf("too few kinds of decks: %v and %v", single, several)
		}
	}
}

func TestFewestPassesOfWideFields(t *testing.T) {
	for _, f := range fieldsOf(impl.MaxColumns) {
		for _, deck := range [][]impl.Card{nil, {}, {wide(impl.MaxColumns, 9)}, {wide(impl.MaxColumns, 16), wide(impl.MaxColumns, 9)}} {
			if f.To-f.From > impl.MaxPlanField {
				fails(t, impl.ErrFull, impl.FewestPasses, deck, f)
				continue
			}
			few, code := impl.FewestPasses(deck, f)
			same(t, fmt.Sprintf("FewestPasses of %d cards, %v", len(deck), f), fmt.Sprint(choicesThatSort(deck, f)[0].passes(f), 0), few, code)
		}
	}
	// Wrong fields, and columns without characters, are told ahead of too many columns.
	deck := []impl.Card{wide(6, 9), wide(6, 3)}
	fails(t, impl.ErrFormat, impl.FewestPasses, deck, impl.Field{From: 0, To: 5})
	fails(t, impl.ErrFormat, impl.FewestPasses, deck, impl.Field{From: 0, To: 6})
	fails(t, impl.ErrRange, impl.FewestPasses, deck, impl.Field{From: 0, To: 7})
	fails(t, impl.ErrRange, impl.FewestPasses, deck, impl.Field{From: -1, To: 6})
	fails(t, impl.ErrRange, impl.FewestPasses, []impl.Card{}, impl.Field{From: 0, To: impl.MaxColumns + 1})
	fails(t, impl.ErrInvalid, impl.FewestPasses, append(deck, card(9)), impl.Field{From: 0, To: 6})
	deck[1].Holes[0] = 9
	fails(t, impl.ErrFormat, impl.FewestPasses, deck, impl.Field{From: 1, To: 6})
	deck[1] = withHoles(wide(6, 16), 5, 3)
	fails(t, impl.ErrFull, impl.FewestPasses, deck, impl.Field{From: 0, To: 5})
	few, code := impl.FewestPasses(deck, impl.Field{From: 1, To: 5})
	same(t, "a column without a character outside of the field", "[] 0", few, code)
}

// A contrast tells, for two columns, which one comes first: -1 for the first one, 1 for the second one, and 0 if both are equal.
type contrast struct {
	digits, zones, rank int
	one, two            int64
}

// firstOf compares the places of the pockets of two columns.
func firstOf(one, two, mode int64) int {
	order := gatheredPockets(mode)
	return cmp.Compare(slices.Index(order, int(pocketIn(one, mode))), slices.Index(order, int(pocketIn(two, mode))))
}

// contrasts are all contrasts of two characters that are different, with one pair of characters for each.
func contrasts() []contrast {
	var list []contrast
	for _, one := range charMasks() {
		for _, two := range charMasks() {
			x := contrast{firstOf(one, two, impl.ModeDigits), firstOf(one, two, impl.ModeZones), cmp.Compare(rankOfHoles(one), rankOfHoles(two)), one, two}
			if !slices.ContainsFunc(list, func(y contrast) bool { return x.digits == y.digits && x.zones == y.zones && x.rank == y.rank }) {
				list = append(list, x)
			}
		}
	}
	return list
}

// A pair of cards, by the contrasts of their first columns; they are equal in the others.
type pair []contrast

// pairsOf are all pairs of cards that differ in so many columns at most.
func pairsOf(width int) []pair {
	list := []pair{{}}
	for range width {
		var wider []pair
		for _, p := range list {
			for _, x := range contrasts() {
				wider = append(wider, append(slices.Clone(p), x))
			}
		}
		list = wider
	}
	return list
}

// sortedBy reports whether passes over the first columns put the pair in order, whichever card is first before them.
func (p pair) sortedBy(f impl.Field, list []impl.Pass) bool {
	want, got := 0, 0
	for _, x := range p[f.From:f.To] {
		want = cmp.Or(want, x.rank)
	}
	for _, pass := range reversed(list) {
		x := p[pass.Column]
		got = cmp.Or(got, map[int64]int{impl.ModeDigits: x.digits, impl.ModeZones: x.zones}[pass.Mode])
	}
	return got == want
}

// cards returns the two cards.
func (p pair) cards() []impl.Card {
	deck := []impl.Card{wide(impl.MaxColumns, 0), wide(impl.MaxColumns, 0)}
	for column, x := range p {
		deck[0].Holes[column], deck[1].Holes[column] = x.one, x.two
	}
	return deck
}

// checkAlways compares what is told about passes over the first columns with a search over pairs of cards. A pair that is not sorted is shown to be wrong.
func checkAlways(t *testing.T, f impl.Field, list []impl.Pass, pairs []pair) bool {
	t.Helper()
	at := slices.IndexFunc(pairs, func(p pair) bool { return !p.sortedBy(f, list) })
	always, code := impl.AlwaysSorts(f, list)
	if code != impl.OK || always != (at < 0) {
		t.Errorf("AlwaysSorts(%v, %v): got %v, %d, want %v", f, list, always, code, at < 0)
	}
	if at >= 0 {
		deck := pairs[at].cards()
		one, _ := impl.IsPlanFor(deck, f, list)
		slices.Reverse(deck)
		two, _ := impl.IsPlanFor(deck, f, list)
		if one && two {
			t.Errorf("AlwaysSorts(%v, %v) should be false, but both decks of %v are sorted", f, list, deck)
		}
	}
	return always
}

// listsOf calls do for all lists of at most so many of some elements.
func listsOf[T any](elements []T, most int, begun []T, do func([]T)) {
	do(begun)
	if len(begun) == most {
		return
	}
	for _, x := range elements {
		listsOf(elements, most, append(slices.Clone(begun), x), do)
	}
}

// TestAlwaysSortsByPairs compares with a search over all pairs of cards, for all short lists of passes.
func TestAlwaysSortsByPairs(t *testing.T) {
	same(t, "contrasts of columns", "9", len(contrasts()))
	for _, x := range []struct {
		width, most int
		fields      []impl.Field
	}{
		{2, 5, fieldsOf(2)},
		{3, 5, fieldsUpTo(3, 2)},
	} {
		pairs, right := pairsOf(x.width), 0
		listsOf(rightPasses(int64(x.width)), x.most, nil, func(list []impl.Pass) {
			for _, f := range x.fields {
				if checkAlways(t, f, list, pairs) {
					right++
				}
			}
		})
		if right == 0 {
			t.Errorf("no list of %d columns sorts", x.width)
		}
	}
	// Longer lists, most of which have the full plan in it.
	random := rand.New(rand.NewPCG(8, 5))
	pairs := pairsOf(3)
	right := 0
	for turn := range 4000 {
		f := someField(random, 3, 3)
		list := planFor(f)
		for range random.IntN(10) {
			column := f.From + int64(random.IntN(int(f.To-f.From)))
			if turn%4 == 0 {
				column = int64(random.IntN(3))
			}
			list = slices.Insert(list, random.IntN(len(list)+1), by(column, bothModes[random.IntN(2)]))
		}
		if turn%5 == 0 {
			at := random.IntN(len(list))
			list = slices.Delete(list, at, at+1)
		}
		if checkAlways(t, f, list, pairs) {
			right++
		}
	}
	if right < 500 {
		t.Errorf("only %d lists sort", right)
	}
}

func TestAlwaysSorts(t *testing.T) {
	for _, x := range []struct {
		from, to int64
		passes   string
		want     bool
	}{
		{0, 1, "0d 0z", true},
		{0, 1, "0z 0d", false},
		{0, 1, "0d", false},
		{0, 1, "0z", false},
		{0, 1, "", false},
		{0, 1, "1d 1z", false},
		{1, 2, "1d 1z", true},
		// Superfluous passes.
		{0, 1, "0d 0d 0z", true},
		{0, 1, "0d 0z 0z", true},
		{0, 1, "0z 0d 0z", true},
		{0, 1, "0d 0z 0d 0z", true},
		{0, 1, "0d 0z 0d", false},
		{0, 2, "1d 1z 0d 0z", true},
		{0, 2, "0d 0z 1d 1z 0d 0z", true},
		{0, 2, "0z 1d 0d 1z 0d 0z", true},
		{0, 2, "1d 1z 1z 0d 0d 0z", true},
		{0, 2, "1d 0d 1z 0d 0z", true},
		{0, 2, "1d 1z 0d 0z 0z", true},
		{0, 2, "1d 1z 0d 0z 0d", false},
		{0, 2, "1d 1z 0d 0z 1d", false},
		{0, 2, "1d 1z 0d 0z 1z", false},
		{0, 2, "1d 0d 1z 0z", false},
		{0, 2, "1d 0d 0z 1z", false},
		{0, 2, "0d 0z 1d 1z", false},
		{0, 2, "1z 1d 0d 0z", false},
		{0, 2, "1d 1z 0z 0d", false},
		// One pass is missing.
		{0, 2, "1z 0d 0z", false},
		{0, 2, "1d 0d 0z", false},
		{0, 2, "1d 1z 0z", false},
		{0, 2, "1d 1z 0d", false},
		{1, 2, "2d 2z 1d", false},
		// Other columns move cards with equal fields, wherever their passes are.
		{0, 1, "1d 1z 0d 0z", false},
		{0, 1, "1d 0d 0z", false},
		{0, 1, "1z 0d 0z", false},
		{0, 1, "0d 0z 1d", false},
		{0, 1, "0d 0z 1z", false},
		{0, 1, "0d 1d 0z", false},
		{1, 2, "0d 0z 1d 1z", false},
		{1, 2, "1d 1z 0d 0z", false},
		{1, 2, "1d 1z 0z", false},
		{1, 3, "2d 2z 1d 1z", true},
		{1, 3, "2d 2z 1d 1z 19z", false},
		{1, 3, "3d 2d 2z 1d 1z", false},
		{19, 20, "19d 19z", true},
		{18, 20, "19d 19z 18d 18z", true},
	} {
		f := impl.Field{From: x.from, To: x.to}
		always, code := impl.AlwaysSorts(f, words(x.passes))
		same(t, fmt.Sprintf("AlwaysSorts of %v and %s", f, x.passes), fmt.Sprint(x.want, 0), always, code)
	}
}

// TestAlwaysSortsFields checks lists that are nearly full plans, for all fields.
func TestAlwaysSortsFields(t *testing.T) {
	told := func(f impl.Field, list []impl.Pass, want bool) {
		t.Helper()
		if len(list) > impl.MaxPasses {
			fails(t, impl.ErrRange, impl.AlwaysSorts, f, list)
		} else if always, code := impl.AlwaysSorts(f, list); code != impl.OK || always != want {
			t.Errorf("AlwaysSorts(%v, %v): got %v, %d, want %v", f, list, always, code, want)
		}
	}
	for _, f := range fieldsOf(impl.MaxColumns) {
		full := planFor(f)
		told(f, full, true)
		told(f, nil, false)
		told(f, []impl.Pass{}, false)
		told(f, reversed(full), false)
		told(f, slices.Concat(full, full), true)
		told(f, slices.Concat(reversed(full), full), true)
		told(f, slices.Concat(full, reversed(full)), false)
		for at, p := range full {
			told(f, slices.Delete(slices.Clone(full), at, at+1), false)
			told(f, slices.Insert(slices.Clone(full), at, p), true)
			told(f, append([]impl.Pass{p}, full...), true)
			told(f, append(slices.Clone(full), p), at == len(full)-1)
			if at > 0 {
				swapped := slices.Clone(full)
				swapped[at-1], swapped[at] = p, swapped[at-1]
				told(f, swapped, false)
			}
		}
		for _, p := range rightPasses(impl.MaxColumns) {
			if p.Column < f.From || p.Column >= f.To {
				told(f, append([]impl.Pass{p}, full...), false)
				told(f, append(slices.Clone(full), p), false)
				told(f, slices.Insert(slices.Clone(full), len(full)/2, p), false)
			}
		}
		// As many passes as there may be.
		ahead := slices.Repeat(full[:1], impl.MaxPasses-len(full))
		told(f, append(ahead, full...), true)
		told(f, append(ahead, slices.Concat(full, full[len(full)-1:])...), true)
	}
}

// TestListsThatAlwaysSort runs some of these lists.
func TestListsThatAlwaysSort(t *testing.T) {
	random := rand.New(rand.NewPCG(8, 6))
	for turn := range 300 {
		f := someField(random, impl.MaxColumns, []int64{1, 2, 4, impl.MaxColumns}[turn%4])
		list := planFor(f)
		for range random.IntN(impl.MaxPasses - len(list) + 1) {
			p := list[random.IntN(len(list))]
			list = append([]impl.Pass{p}, list...)
		}
		always, code := impl.AlwaysSorts(f, list)
		same(t, fmt.Sprintf("AlwaysSorts(%v, %v)", f, list), "true 0", always, code)
		if !checkPlan(t, anyDeck(random, impl.MaxDeck, impl.MaxColumns, someHoles(turn)), f, list) {
			t.Errorf("%v does not sort by %v", list, f)
		}
	}
}

func TestErrorsOfAlwaysSorts(t *testing.T) {
	first := impl.Field{From: 0, To: 1}
	for _, f := range badFields() {
		for _, list := range [][]impl.Pass{nil, {}, words("0d 0z"), words("0d 20z"), slices.Repeat(words("0d"), impl.MaxPasses+1)} {
			fails(t, impl.ErrRange, impl.AlwaysSorts, f, list)
		}
	}
	for _, p := range wrongPasses(impl.MaxColumns) {
		for _, list := range [][]impl.Pass{{p}, {p, by(0, 1), by(0, 2)}, {by(0, 1), by(0, 2), p}, {by(0, 1), p, by(0, 2)}, append(slices.Repeat(words("0d"), impl.MaxPasses-1), p)} {
			fails(t, impl.ErrRange, impl.AlwaysSorts, first, list)
		}
	}
	many := append(slices.Repeat(words("0d"), impl.MaxPasses-1), words("0z")...)
	always, code := impl.AlwaysSorts(first, many)
	same(t, "MaxPasses passes", "40 true 0", len(many), always, code)
	fails(t, impl.ErrRange, impl.AlwaysSorts, first, append(words("0d"), many...))
	fails(t, impl.ErrRange, impl.AlwaysSorts, first, slices.Repeat(many, 100))
	fails(t, impl.ErrRange, impl.AlwaysSorts, impl.Field{From: 0, To: impl.MaxColumns}, append(words("19d"), planFor(impl.Field{From: 0, To: impl.MaxColumns})...))
}

func TestHandledCards(t *testing.T) {
	most := slices.Repeat(words("0d 19z"), impl.MaxPasses/2)
	for _, x := range []struct {
		cards int64
		list  []impl.Pass
		want  int64
	}{
		{0, nil, 0}, {1, nil, 0}, {1000000, nil, 0}, {1000000, []impl.Pass{}, 0},
		{0, words("0d"), 0}, {1, words("0d"), 1}, {3, words("0d 0z"), 6}, {7, words("0d 0d 0d"), 21}, {impl.MaxDeck + 1, words("19d 19z"), 82}, {100, words("0z"), 100},
		{999999, words("3d"), 999999}, {1000000, words("3d"), 1000000}, {1000000, words("5z 4d 4z"), 3000000},
		{0, most, 0}, {1, most, 40}, {25, most[1:], 975}, {1000000, most, 40000000}, {999999, most[1:], 38999961},
	} {
		got, code := impl.HandledCards(x.cards, x.list)
		same(t, fmt.Sprintf("HandledCards(%d, %v)", x.cards, x.list), fmt.Sprint(x.want, 0), got, code)
	}
	for _, cards := range []int64{-1, -2, -1000000, 1000001, 1000002, 1 << 32, -1 << 32, math.MinInt64, math.MinInt64 + 1, math.MaxInt64} {
		for _, list := range [][]impl.Pass{nil, {}, words("0d"), most, {by(0, 0)}, append(most, most...)} {
			fails(t, impl.ErrRange, impl.HandledCards, cards, list)
		}
	}
	for _, cards := range []int64{0, 1, 3, 1000000} {
		fails(t, impl.ErrRange, impl.HandledCards, cards, append(most, by(0, 1)))
		fails(t, impl.ErrRange, impl.HandledCards, cards, slices.Repeat(most, 100))
		for _, p := range wrongPasses(impl.MaxColumns) {
			for _, list := range [][]impl.Pass{{p}, {p, by(0, 1)}, {by(0, 1), by(0, 2), p}, append(slices.Clone(most[1:]), p)} {
				fails(t, impl.ErrRange, impl.HandledCards, cards, list)
			}
		}
	}
}
