package tests

import (
	"fmt"
	"math"
	"math/rand/v2"
	"slices"
	"strings"
	"testing"

	"loop.example/g01012/impl"
)

// sameField reports whether two cards have the same characters in a field.
func sameField(a, b impl.Card, f impl.Field) bool {
	return slices.Equal(a.Holes[f.From:f.To], b.Holes[f.From:f.To])
}

// withText returns a card that has a text in a field, and no columns behind it.
func withText(f impl.Field, text string) impl.Card {
	return card(append(wide(int(f.From), 0).Holes, cardOf(text).Holes...)...)
}

// textIn returns the text of columns, with a question mark for each one that has no character.
func textIn(holes []int64) string {
	text := ""
	for _, mask := range holes {
		if rank := rankOfHoles(mask); rank < 0 {
			text += "?"
		} else {
			text += string(alphabet()[rank].char)
		}
	}
	return text
}

// textsOf returns the texts of cards, with commas in between.
func textsOf(deck []impl.Card) string {
	var list []string
	for _, c := range deck {
		list = append(list, textIn(c.Holes))
	}
	return strings.Join(list, ",")
}

// listed returns the deck with texts that have commas in between.
func listed(texts string) []impl.Card {
	if texts == "" {
		return nil
	}
	return deckOf(strings.Split(texts, ",")...)
}

// where returns the cards for which keep holds, in their order.
func where(deck []impl.Card, keep func(impl.Card) bool) []impl.Card {
	return slices.DeleteFunc(slices.Clone(deck), func(c impl.Card) bool { return !keep(c) })
}

// commonError returns the first error that a field, lists of cards and texts have in all functions of the chapter.
func commonError(f impl.Field, decks [][]impl.Card, texts ...string) int64 {
	for _, deck := range decks {
		if !impl.ValidDeck(deck) {
			return impl.ErrInvalid
		}
	}
	for _, deck := range decks {
		if f.From < 0 || f.From >= f.To || f.To > columnsOf(deck) {
			return impl.ErrRange
		}
	}
	for _, text := range texts {
		if int64(len(text)) != f.To-f.From {
			return impl.ErrRange
		}
	}
	for _, char := range []byte(strings.Join(texts, "")) {
		if rankOfByte(char) < 0 {
			return impl.ErrSyntax
		}
	}
	for _, c := range slices.Concat(decks...) {
		if strings.Contains(textIn(c.Holes[f.From:f.To]), "?") {
			return impl.ErrFormat
		}
	}
	return impl.OK
}

// expect fails the test unless the results are a value and OK, or an error and zero values. Cards are told by their holes.
func expect(t *testing.T, what string, code int64, want any, got []any) {
	t.Helper()
	if code != impl.OK && (got[len(got)-1] != code || !zeroButCode(got)) {
		t.Errorf("%s: got %v, want the code %d", what, got, code)
	}
	if code == impl.OK && (got[len(got)-1] != code || fmt.Sprint(got[0]) != fmt.Sprint(want)) {
		t.Errorf("%s: got %v, want %v", what, got, want)
	}
}

// checkMerge compares what MergeDecks returns with the deck that is sorted plainly, and with SortedBy, or with the error that comes first.
func checkMerge(t *testing.T, a, b []impl.Card, f impl.Field) int64 {
	t.Helper()
	code, both := commonError(f, [][]impl.Card{a, b}), slices.Concat(a, b)
	switch {
	case code != impl.OK:
	case len(a) > 0 && len(b) > 0 && len(a[0].Holes) != len(b[0].Holes):
		code = impl.ErrClash
	case firstStep(a, f) >= 0 || firstStep(b, f) >= 0:
		code = impl.ErrState
	case len(both) > 40:
		code = impl.ErrFull
	}
	var want []impl.Card
	if code == impl.OK {
		want = sortedPlainly(both, f)
		if sorted, other := impl.SortedBy(both, f); other != impl.OK || !impl.SameDeck(sorted, want) {
			t.Errorf("SortedBy(%v, %v): got %v, %d, want %v", both, f, sorted, other, want)
		}
	}
	expect(t, fmt.Sprintf("MergeDecks(%v, %v, %v)", a, b, f), code, want, call(impl.MergeDecks, a, b, f))
	return code
}

// checkMatch compares what MatchDecks returns with what two nested loops find, or with the error that comes first.
func checkMatch(t *testing.T, a, b []impl.Card, f impl.Field) int64 {
	t.Helper()
	code := commonError(f, [][]impl.Card{a, b})
	var want [][]impl.Card
	switch {
	case code != impl.OK:
	case firstStep(a, f) >= 0 || firstStep(b, f) >= 0:
		code = impl.ErrState
	default:
		in := func(others []impl.Card, is bool) func(impl.Card) bool {
			return func(c impl.Card) bool {
				return is == slices.ContainsFunc(others, func(other impl.Card) bool { return sameField(c, other, f) })
			}
		}
		want = [][]impl.Card{where(a, in(b, true)), where(b, in(a, true)), where(a, in(b, false)), where(b, in(a, false))}
	}
	expect(t, fmt.Sprintf("MatchDecks(%v, %v, %v)", a, b, f), code, want, call(impl.MatchDecks, a, b, f))
	return code
}

// checkInsert compares what InsertCard returns with the deck that is sorted plainly with the card behind it, or with the error that comes first.
func checkInsert(t *testing.T, deck []impl.Card, c impl.Card, f impl.Field) int64 {
	t.Helper()
	code := commonError(f, [][]impl.Card{deck, {c}})
	switch {
	case code != impl.OK:
	case len(deck) > 0 && len(deck[0].Holes) != len(c.Holes):
		code = impl.ErrClash
	case firstStep(deck, f) >= 0:
		code = impl.ErrState
	case len(deck) == 40:
		code = impl.ErrFull
	}
	var want []impl.Card
	if code == impl.OK {
		want = sortedPlainly(append(slices.Clone(deck), c), f)
	}
	expect(t, fmt.Sprintf("InsertCard(%v, %v, %v)", deck, c, f), code, want, call(impl.InsertCard, deck, c, f))
	return code
}

// checkNeighbours compares what the functions about cards and those before them return with what their neighbours tell.
func checkNeighbours(t *testing.T, deck []impl.Card, f impl.Field) int64 {
	t.Helper()
	code := commonError(f, [][]impl.Card{deck})
	var wrong, groups []int64
	var first []impl.Card
	if code == impl.OK {
		for k, c := range deck {
			if k > 0 && orderedBefore(c, deck[k-1], f) {
				wrong = append(wrong, int64(k))
			}
			if k == 0 || !sameField(c, deck[k-1], f) {
				groups, first = append(groups, int64(k)), append(first, c)
			}
		}
	}
	expect(t, fmt.Sprintf("SequenceErrors(%v, %v)", deck, f), code, wrong, call(impl.SequenceErrors, deck, f))
	expect(t, fmt.Sprintf("GroupsOf(%v, %v)", deck, f), code, groups, call(impl.GroupsOf, deck, f))
	expect(t, fmt.Sprintf("FirstOfGroups(%v, %v)", deck, f), code, first, call(impl.FirstOfGroups, deck, f))
	return code
}

// checkEqual compares what SelectEqual and FindCards return for a text with what a loop finds, or with the error that comes first.
func checkEqual(t *testing.T, deck []impl.Card, f impl.Field, text string) (int64, int64) {
	t.Helper()
	code := commonError(f, [][]impl.Card{deck}, text)
	find := code
	var want []impl.Card
	at := 0
	if code == impl.OK {
		asked := withText(f, text)
		want = where(deck, func(c impl.Card) bool { return sameField(c, asked, f) })
		for at < len(deck) && orderedBefore(deck[at], asked, f) {
			at++
		}
		if firstStep(deck, f) >= 0 {
			find = impl.ErrState
		}
	}
	expect(t, fmt.Sprintf("SelectEqual(%v, %v, %q)", deck, f, text), code, want, call(impl.SelectEqual, deck, f, text))
	got := call(impl.FindCards, deck, f, text)
	expect(t, fmt.Sprintf("FindCards(%v, %v, %q)", deck, f, text), find, at, got)
	if find == impl.OK && got[1] != int64(len(want)) {
		t.Errorf("FindCards(%v, %v, %q): got %v, want %d cards", deck, f, text, got, len(want))
	}
	return code, find
}

// checkBetween compares what SelectBetween returns with what a loop finds, or with the error that comes first.
func checkBetween(t *testing.T, deck []impl.Card, f impl.Field, low, high string) int64 {
	t.Helper()
	code := commonError(f, [][]impl.Card{deck}, low, high)
	var want []impl.Card
	if code == impl.OK {
		least, greatest := withText(f, low), withText(f, high)
		want = where(deck, func(c impl.Card) bool { return !orderedBefore(c, least, f) && !orderedBefore(greatest, c, f) })
	}
	expect(t, fmt.Sprintf("SelectBetween(%v, %v, %q, %q)", deck, f, low, high), code, want, call(impl.SelectBetween, deck, f, low, high))
	return code
}

// TestCollatorOfTheDocument checks the example of the chapter.
func TestCollatorOfTheDocument(t *testing.T) {
	merged, code := impl.MergeDecks(listed("A1,C1"), listed("B2,C2"), impl.Field{From: 0, To: 1})
	same(t, "the example", "A1,B2,C1,C2 0", textsOf(merged), code)
	merged, code = impl.MergeDecks(listed("1A,1C"), listed("2B,2C"), impl.Field{From: 1, To: 2})
	same(t, "the example in another column", "1A,2B,1C,2C 0", textsOf(merged), code)
}

func TestMergeDecks(t *testing.T) {
	for _, x := range []struct {
		a, b     string
		from, to int64
		want     string
	}{
		{"", "", 0, 1, ""}, {"A1", "", 0, 1, "A1"}, {"", "A1", 0, 1, "A1"}, {"A1,B1,B2", "", 0, 2, "A1,B1,B2"}, {"", "A1,B1,B2", 0, 2, "A1,B1,B2"},
		{"A1", "B1", 0, 2, "A1,B1"}, {"B1", "A1", 0, 2, "A1,B1"}, {"B1", "A1", 1, 2, "B1,A1"},
		{"A1,B1", "C1,D1", 0, 1, "A1,B1,C1,D1"}, {"C1,D1", "A1,B1", 0, 1, "A1,B1,C1,D1"}, {"A1,C1", "B1,D1", 0, 1, "A1,B1,C1,D1"}, {"A1,D1", "B1,C1", 0, 1, "A1,B1,C1,D1"},
		// Equal cards, and cards that are equal in the field only.
		{"A1", "A1", 0, 2, "A1,A1"}, {"A2", "A1", 0, 1, "A2,A1"}, {"A1", "A2", 0, 1, "A1,A2"}, {"A2,A1", "A4,A3", 0, 1, "A2,A1,A4,A3"},
		{"A5,A9,C9", "A7,A0,B0,C0", 0, 1, "A5,A9,A7,A0,B0,C9,C0"}, {"A1,B4,B3,B5", "B2,B1,B0,C0", 0, 1, "A1,B4,B3,B5,B2,B1,B0,C0"}, {"B4,B3", "A1,B2,B1", 0, 1, "A1,B4,B3,B2,B1"},
		{"A1,A1,B1", "A1,B1,B1", 0, 2, "A1,A1,A1,B1,B1,B1"}, {"X1Z,Y1Z", "V1W,U1W,T2S", 1, 2, "X1Z,Y1Z,V1W,U1W,T2S"},
		// The order is that of the ranks.
		{"& ,- ,/ ,0 ", " 1,A1,J1,S1,91", 0, 1, " 1,& ,A1,- ,J1,/ ,S1,0 ,91"}, {"A,Z,0", "I,J,9", 0, 1, "A,I,J,Z,0,9"},
	} {
		f := impl.Field{From: x.from, To: x.to}
		merged, code := impl.MergeDecks(listed(x.a), listed(x.b), f)
		same(t, fmt.Sprintf("MergeDecks of %s and %s by %v", x.a, x.b, f), x.want+" 0", textsOf(merged), code)
		checkMerge(t, listed(x.a), listed(x.b), f)
	}
}

func TestMatchDecks(t *testing.T) {
	for _, x := range []struct {
		a, b     string
		from, to int64
		want     string
	}{
		{"", "", 0, 1, "; ; ; "}, {"A1", "", 0, 1, "; ; A1; "}, {"", "A1", 0, 1, "; ; ; A1"}, {"A1,B1", "", 0, 2, "; ; A1,B1; "},
		{"A1", "A1", 0, 2, "A1; A1; ; "}, {"A1", "A2", 0, 1, "A1; A2; ; "}, {"A1", "A2", 0, 2, "; ; A1; A2"}, {"A1,C1", "B2,C2", 0, 1, "C1; C2; A1; B2"},
		// Several equal cards on one side, or on both.
		{"A1,A2,A3", "A4", 0, 1, "A1,A2,A3; A4; ; "}, {"A4", "A3,A2,A1", 0, 1, "A4; A3,A2,A1; ; "}, {"A1,A2", "A3,A4,A5", 0, 1, "A1,A2; A3,A4,A5; ; "},
		{"A1,A1,B1", "A1,C1,C1", 0, 2, "A1,A1; A1; B1; C1,C1"}, {"A9,A1,B9,B1,D1", "B7,B5,C7,C5,D0,D9", 0, 1, "B9,B1,D1; B7,B5,D0,D9; A9,A1; C7,C5"},
		{"A1,B1,C1", "D1,E1", 0, 1, "; ; A1,B1,C1; D1,E1"}, {"A1,B1,C1", "A2,B2,C2", 0, 1, "A1,B1,C1; A2,B2,C2; ; "}, {"A1,B1,C1", "B2", 0, 1, "B1; B2; A1,C1; "}, {"B2", "A1,B1,C1", 0, 1, "B2; B1; ; A1,C1"},
		// Decks with different numbers of columns.
		{"A,C", "BXY,CXY,CXZ", 0, 1, "C; CXY,CXZ; A; BXY"}, {"1A5,1B5", "1B", 0, 2, "1B5; 1B; 1A5; "}, {"1A5,1B5", "2B", 1, 2, "1B5; 2B; 1A5; "},
	} {
		f := impl.Field{From: x.from, To: x.to}
		lists, code := impl.MatchDecks(listed(x.a), listed(x.b), f)
		var got []string
		for _, list := range lists {
			got = append(got, textsOf(list))
		}
		same(t, fmt.Sprintf("MatchDecks of %s and %s by %v", x.a, x.b, f), fmt.Sprint(x.want, " 4 0"), strings.Join(got, "; "), len(lists), code)
		checkMatch(t, listed(x.a), listed(x.b), f)
	}
	for _, deck := range [][]impl.Card{nil, {}} {
		for _, f := range fieldsOf(impl.MaxColumns) {
			lists, code := impl.MatchDecks(deck, deck, f)
			same(t, fmt.Sprintf("no cards by %v", f), fmt.Sprint(make([][]impl.Card, 4), 0), lists, code)
		}
	}
}

// shortDecks are all lists of at most so many of some letters, as decks. The first column has the letter, and the second one the number of the card, from first on.
func shortDecks(most int, letters string, first int) [][]impl.Card {
	lists := [][]impl.Card{nil}
	last := lists
	for k := range most {
		var longer [][]impl.Card
		for _, deck := range last {
			for _, char := range letters {
				longer = append(longer, append(slices.Clone(deck), cardOf(string(char)+fmt.Sprint(first+k))))
			}
		}
		lists, last = append(lists, longer...), longer
	}
	return lists
}

// TestSmallDecksInCollator checks P9, and all functions with decks, for all small decks of three kinds of cards. Some of them are not sorted.
func TestSmallDecksInCollator(t *testing.T) {
	letter := impl.Field{From: 0, To: 1}
	codes := map[int64]int{}
	for _, a := range shortDecks(3, "AJ0", 1) {
		for _, b := range shortDecks(3, "AJ0", 4) {
			codes[checkMerge(t, a, b, letter)]++
			checkMatch(t, a, b, letter)
		}
		for _, f := range fieldsOf(2) {
			// The second column of these decks is sorted, and its texts are all different; this one begins with a card of a.
			b := listed("A1,J5,09")
			checkMerge(t, a, b, f)
			checkMerge(t, b, a, f)
			checkMatch(t, a, b, f)
			checkMatch(t, b, a, f)
		}
	}
	same(t, "decks that are merged, and those that are not sorted", "400 1200", codes[impl.OK], codes[impl.ErrState])
	for _, deck := range shortDecks(4, "AJ0", 1) {
		for _, f := range fieldsOf(2) {
			checkNeighbours(t, deck, f)
			checkInsert(t, deck, cardOf("J3"), f)
		}
		for _, low := range " AKJ09" {
			checkEqual(t, deck, letter, string(low))
			checkInsert(t, deck, cardOf(string(low)+"9"), letter)
			for _, high := range " AKJ09" {
				checkBetween(t, deck, letter, string(low), string(high))
			}
		}
	}
}

// tagged returns a deck of so many cards, with columns that have any of some holes, and two more columns by which all cards of two such decks differ.
func tagged(random *rand.Rand, size, width int, masks []int64, first int) []impl.Card {
	deck := anyDeck(random, size, width, masks)
	for k := range deck {
		deck[k].Holes = append(deck[k].Holes, holesIn(int64((first+k)/10)), holesIn(int64((first+k)%10)))
	}
	return deck
}

// checkParts checks the second part of P9: each card is in just one of two decks, and it is matched just if the other deck has a card with an equal field.
func checkParts(t *testing.T, deck, others, matched, rest []impl.Card, f impl.Field) {
	t.Helper()
	if len(matched)+len(rest) != len(deck) {
		t.Errorf("%v: matched %v, other %v", deck, matched, rest)
	}
	for _, c := range deck {
		is := func(other impl.Card) bool { return impl.SameCard(c, other) }
		equal := slices.ContainsFunc(others, func(other impl.Card) bool {
			order, code := impl.CompareFields(c, other, f)
			return code == impl.OK && order == 0
		})
		if slices.ContainsFunc(matched, is) != equal || slices.ContainsFunc(rest, is) == equal {
			t.Errorf("%v by %v: matched %v, other %v, but that %v has an equal card is %v", c, f, matched, rest, others, equal)
		}
	}
}

// TestCollatorOfRandomDecks checks P9 for sorted decks of all sizes, with few and with many equal fields.
func TestCollatorOfRandomDecks(t *testing.T) {
	random := rand.New(rand.NewPCG(9, 1))
	for turn := range 1200 {
		width := 1 + random.IntN(4)
		f := someField(random, int64(width), 4)
		masks := someHoles(turn)
		size := turn % (impl.MaxDeck + 1)
		a := sortedPlainly(tagged(random, size, width, masks, 0), f)
		b := sortedPlainly(tagged(random, random.IntN(impl.MaxDeck+1-size), width, masks, 40), f)
		if code := checkMerge(t, a, b, f); code != impl.OK {
			t.Errorf("MergeDecks(%v, %v, %v): %d", a, b, f, code)
		}
		merged, _ := impl.MergeDecks(a, b, f)
		sorted, code := impl.IsSorted(merged, f)
		same(t, "a merged deck", "true 0", sorted, code)
		checkMatch(t, a, b, f)
		if lists, code := impl.MatchDecks(a, b, f); code != impl.OK || len(lists) != 4 {
			t.Errorf("MatchDecks(%v, %v, %v): got %v, %d", a, b, f, lists, code)
		} else {
			checkParts(t, a, b, lists[0], lists[2], f)
			checkParts(t, b, a, lists[1], lists[3], f)
		}
		other := anyDeck(random, 1, width+2, masks)[0]
		checkInsert(t, merged, other, f)
		texts := []string{textIn(other.Holes[f.From:f.To]), textIn(anyDeck(random, 1, width, masks)[0].Holes[f.From:f.To])}
		for _, deck := range [][]impl.Card{a, merged, slices.Concat(b, a)} {
			checkNeighbours(t, deck, f)
			checkBetween(t, deck, f, texts[0], texts[1])
			for _, text := range texts {
				checkFound(t, deck, f, text)
			}
		}
	}
}

// checkFound checks the last part of P9: SelectEqual has as many cards as FindCards counts.
func checkFound(t *testing.T, deck []impl.Card, f impl.Field, text string) {
	t.Helper()
	if _, find := checkEqual(t, deck, f, text); find != impl.OK {
		return
	}
	selected, one := impl.SelectEqual(deck, f, text)
	at, count, two := impl.FindCards(deck, f, text)
	if one != impl.OK || two != impl.OK || count != int64(len(selected)) || !impl.SameDeck(selected, deck[at:at+count]) {
		t.Errorf("%q in %v by %v: SelectEqual %v, %d, and FindCards %d, %d, %d", text, deck, f, selected, one, at, count, two)
	}
}

// TestFullDecksInCollator checks the limit of merged decks for all sizes of two decks.
func TestFullDecksInCollator(t *testing.T) {
	f := impl.Field{From: 0, To: 1}
	var all []impl.Card
	for k := range impl.MaxDeck {
		all = append(all, card(charMasks()[k], 9))
	}
	for size := range impl.MaxDeck + 1 {
		for _, more := range []int{0, 1, impl.MaxDeck - size, impl.MaxDeck - size + 1, impl.MaxDeck} {
			if more > impl.MaxDeck {
				continue
			}
			want := int64(impl.OK)
			if size+more > 40 {
				want = impl.ErrFull
			}
			for _, b := range [][]impl.Card{all[:more], all[impl.MaxDeck-more:], copies(more, card(9, 16))} {
				same(t, fmt.Sprintf("the code of %d and %d cards", size, more), fmt.Sprint(want), checkMerge(t, all[:size], b, f))
				same(t, "MatchDecks has no such limit", "0", checkMatch(t, all[:size], b, f))
			}
		}
		want := int64(impl.OK)
		if size == 40 {
			want = impl.ErrFull
		}
		for _, c := range []impl.Card{all[0], all[20], all[39], card(9, 3)} {
			same(t, fmt.Sprintf("the code of %d cards and one more", size), fmt.Sprint(want), checkInsert(t, all[:size], c, f))
			same(t, fmt.Sprintf("the code of %d equal cards and one more", size), fmt.Sprint(want), checkInsert(t, copies(size, card(9, 16)), c, f))
		}
	}
	// That a deck is not sorted is told ahead of too many cards.
	full := append(copies(impl.MaxDeck-1, card(16)), card(9))
	fails(t, impl.ErrState, impl.MergeDecks, full, copies(1, card(9)), f)
	fails(t, impl.ErrState, impl.MergeDecks, copies(1, card(9)), full, f)
	fails(t, impl.ErrState, impl.InsertCard, full, card(9), f)
	fails(t, impl.ErrState, impl.MatchDecks, full, full, f)
	fails(t, impl.ErrFull, impl.MergeDecks, sortedPlainly(full, f), copies(1, card(9)), f)
	fails(t, impl.ErrFull, impl.InsertCard, sortedPlainly(full, f), card(9), f)
}

// TestEmptyDecksInCollator checks the fields, and that decks without cards do not clash, for one deck or both without cards.
func TestEmptyDecksInCollator(t *testing.T) {
	for _, none := range [][]impl.Card{nil, {}} {
		for _, f := range append(fieldsOf(impl.MaxColumns), badFields()...) {
			want := int64(impl.ErrRange)
			if 0 <= f.From && f.From < f.To && f.To <= 20 {
				want = impl.OK
			}
			same(t, fmt.Sprintf("no cards by %v", f), fmt.Sprint(want, want, want), checkMerge(t, none, none, f), checkMatch(t, none, none, f), checkNeighbours(t, none, f))
			// The other deck decides which fields there are.
			for _, deck := range [][]impl.Card{{card(9)}, listed("AB,CD"), {wide(impl.MaxColumns, 9)}} {
				want := commonError(f, [][]impl.Card{deck})
				same(t, fmt.Sprintf("no cards, and %v, by %v", deck, f), fmt.Sprint(want, want, want, want, want), checkMerge(t, none, deck, f), checkMerge(t, deck, none, f), checkMatch(t, none, deck, f), checkMatch(t, deck, none, f), checkInsert(t, none, deck[0], f))
			}
		}
	}
}

func TestSequenceErrors(t *testing.T) {
	for _, x := range []struct{ texts, want string }{
		{"", "[]"}, {"A", "[]"}, {"A,A,A", "[]"}, {"A,B,C", "[]"}, {"A,A,Z,0,9", "[]"}, {" ,&,A,-,J,/,S,0", "[]"},
		{"B,A", "[1]"}, {"A,B,A", "[2]"}, {"B,A,A", "[1]"}, {"B,A,B,A", "[1 3]"}, {"C,A,B", "[1]"}, {"A,C,B,C,A,A,B", "[2 4]"},
		{"D,C,B,A", "[1 2 3]"}, {"9,0,Z,/,R,-,I,&, ", "[1 2 3 4 5 6 7 8]"}, {"0,A,1,Z", "[1 3]"},
	} {
		got, code := impl.SequenceErrors(listed(x.texts), impl.Field{From: 0, To: 1})
		same(t, "SequenceErrors of "+x.texts, x.want+" 0", got, code)
	}
	deck := listed("B1,A2,B0")
	one, code := impl.SequenceErrors(deck, impl.Field{From: 1, To: 2})
	two, _ := impl.SequenceErrors(deck, impl.Field{From: 0, To: 2})
	same(t, "other fields", "[2] [1] 0", one, two, code)
	// Each card is less than the one before it.
	masks := charMasks()
	slices.Reverse(masks)
	for size := 1; size <= impl.MaxDeck; size++ {
		deck := numbered(masks[:size]...)
		checkNeighbours(t, deck, impl.Field{From: 0, To: 1})
		got, code := impl.SequenceErrors(deck, impl.Field{From: 0, To: 1})
		same(t, "a falling deck", fmt.Sprint(size-1, 0), len(got), code)
		if len(got) > 0 && (got[0] != 1 || got[size-2] != int64(size-1)) {
			t.Errorf("a falling deck of %d cards: got %v", size, got)
		}
	}
}

func TestGroups(t *testing.T) {
	for _, x := range []struct {
		texts    string
		from, to int64
		groups   string
		first    string
	}{
		{"", 0, 1, "[]", ""}, {"A1", 0, 1, "[0]", "A1"}, {"A1,A2,A3", 0, 1, "[0]", "A1"}, {"A1,B1,C1", 0, 1, "[0 1 2]", "A1,B1,C1"}, {"A1,A1,A1", 0, 2, "[0]", "A1"},
		{"A1,A2,B3,B4,B5,C6", 0, 1, "[0 2 5]", "A1,B3,C6"}, {"A1,B2,B3", 0, 1, "[0 1]", "A1,B2"}, {"A1,A2,B3", 0, 1, "[0 2]", "A1,B3"},
		// Equal fields that do not follow one another, and decks that are not sorted.
		{"A1,B1,A2", 0, 1, "[0 1 2]", "A1,B1,A2"}, {"A1,A2,B1,A3,A4", 0, 1, "[0 2 3]", "A1,B1,A3"}, {"B1,A2,A3,B4,B5,A6", 0, 1, "[0 1 3 5]", "B1,A2,B4,A6"},
		{"A1,B1,A2", 1, 2, "[0 2]", "A1,A2"}, {"A1,B1,A2", 0, 2, "[0 1 2]", "A1,B1,A2"}, {"X1A,X1B,X2B", 0, 2, "[0 2]", "X1A,X2B"},
	} {
		f := impl.Field{From: x.from, To: x.to}
		groups, one := impl.GroupsOf(listed(x.texts), f)
		first, two := impl.FirstOfGroups(listed(x.texts), f)
		same(t, fmt.Sprintf("groups of %s by %v", x.texts, f), fmt.Sprint(x.groups, " 0 ", x.first, " 0"), groups, one, textsOf(first), two)
	}
	// One group, and as many as cards.
	f := impl.Field{From: 0, To: 1}
	for size := 1; size <= impl.MaxDeck; size++ {
		one, code := impl.GroupsOf(numbered(slices.Repeat([]int64{9}, size)...), f)
		many, _ := impl.GroupsOf(numbered(charMasks()[:size]...), f)
		same(t, fmt.Sprintf("groups of %d cards", size), fmt.Sprint("[0] ", size, 0, int64(size-1)), one, len(many), code, many[size-1])
		checkNeighbours(t, numbered(slices.Repeat([]int64{9}, size)...), f)
		checkNeighbours(t, numbered(slices.Repeat([]int64{9, 16}, size)[:size]...), f)
	}
}

func TestSelectEqual(t *testing.T) {
	for _, x := range []struct {
		texts    string
		from, to int64
		text     string
		want     string
	}{
		{"", 0, 1, "A", ""}, {"A1", 0, 1, "B", ""}, {"A1", 0, 1, "A", "A1"}, {"A1,A2", 0, 1, "A", "A1,A2"}, {"B1,A2,B0", 0, 1, "B", "B1,B0"}, {"B1,A2,B0", 0, 2, "B0", "B0"},
		{"B1,A2,B0", 1, 2, "2", "A2"}, {"B1,A2,B1", 0, 2, "B1", "B1,B1"}, {"B1,A2,B0", 0, 2, "B2", ""}, {"B1,A2,B0", 0, 2, "1B", ""},
		// Texts with blanks.
		{" 1,A1,  ", 0, 1, " ", " 1,  "}, {"A ,AA, A,  ", 0, 2, "A ", "A "}, {"A ,AA, A,  ", 0, 2, " A", " A"}, {"A ,AA, A,  ", 0, 2, "  ", "  "},
		{"&-/,&-0,&- ", 0, 3, "&-/", "&-/"}, {"X0Z,XOZ", 0, 3, "X0Z", "X0Z"},
	} {
		f := impl.Field{From: x.from, To: x.to}
		got, code := impl.SelectEqual(listed(x.texts), f, x.text)
		same(t, fmt.Sprintf("SelectEqual of %s by %v, %q", x.texts, f, x.text), x.want+" 0", textsOf(got), code)
	}
	for size := range impl.MaxDeck + 1 {
		deck := copies(size, cardOf("A1"))
		all, one := impl.SelectEqual(deck, impl.Field{From: 0, To: 2}, "A1")
		none, two := impl.SelectEqual(deck, impl.Field{From: 0, To: 2}, "A2")
		same(t, fmt.Sprintf("all or none of %d cards", size), fmt.Sprint(size, 0, 0, 0), len(all), one, len(none), two)
	}
}

func TestSelectBetween(t *testing.T) {
	for _, x := range []struct {
		texts    string
		from, to int64
		low      string
		high     string
		want     string
	}{
		{"", 0, 1, "A", "Z", ""}, {"A1,C1", 0, 1, "B", "Z", "C1"}, {"A1,C1", 0, 1, "A", "C", "A1,C1"}, {"A1,C1", 0, 1, "B", "B", ""}, {"C1,A1,B1", 0, 1, "A", "B", "A1,B1"},
		{"D1,A1,C2,B1,C1", 0, 1, "B", "C", "C2,B1,C1"}, {"A1,B1,C1,D1", 0, 1, "B", "B", "B1"}, {"A1,B1,C1,D1", 0, 1, " ", "9", "A1,B1,C1,D1"},
		// Nothing is between a text and a lesser one.
		{"A1,B1,C1", 0, 1, "C", "A", ""}, {"A1,B1,C1", 0, 1, "B", "A", ""}, {"B1", 0, 1, "C", "A", ""},
		// The first column that differs decides, by rank.
		{"A9,B0,B5,B9,C0", 0, 2, "B1", "B7", "B5"}, {"A9,B0,B5,B9,C0", 0, 2, "A9", "B5", "A9,B0,B5"}, {"A9,B0,B5,B9,C0", 0, 2, "B ", "C ", "B0,B5,B9"}, {"A9,B0,B5,B9,C0", 1, 2, "1", "8", "B5"},
		{"A,I,-,J,/,Z,0,9, ,&", 0, 1, "I", "/", "I,-,J,/"}, {"A,Z,0,9", 0, 1, "Z", "0", "Z,0"}, {"A,Z,0,9", 0, 1, "0", "9", "0,9"}, {"A,Z,0,9", 0, 1, "0", "A", ""}, {" ,&,A", 0, 1, " ", "&", " ,&"},
	} {
		f := impl.Field{From: x.from, To: x.to}
		got, code := impl.SelectBetween(listed(x.texts), f, x.low, x.high)
		same(t, fmt.Sprintf("SelectBetween of %s by %v, %q and %q", x.texts, f, x.low, x.high), x.want+" 0", textsOf(got), code)
	}
	// All characters as bounds.
	deck := numbered(charMasks()...)
	for low := range 40 {
		for high := range 40 {
			got, code := impl.SelectBetween(deck, impl.Field{From: 0, To: 1}, allChars()[low:low+1], allChars()[high:high+1])
			if want := deck[low:max(low, high+1)]; code != impl.OK || !impl.SameDeck(got, want) {
				t.Errorf("SelectBetween %q and %q: got %v, %d, want %v", allChars()[low], allChars()[high], got, code, want)
			}
		}
	}
}

func TestFindCards(t *testing.T) {
	for _, x := range []struct {
		texts    string
		from, to int64
		text     string
		want     string
	}{
		{"", 0, 1, "A", "0 0"}, {"", 3, 6, "A B", "0 0"},
		// In front of all, behind all, between two, equal to one, to several, to all.
		{"B1,D1", 0, 1, "A", "0 0"}, {"B1,D1", 0, 1, "E", "2 0"}, {"B1,D1", 0, 1, "C", "1 0"}, {"B1,D1", 0, 1, "B", "0 1"}, {"B1,D1", 0, 1, "D", "1 1"},
		{"B1,D1,D2,D0,E1", 0, 1, "D", "1 3"}, {"B1,D1,D2,D0,E1", 0, 1, "E", "4 1"}, {"B1,D1,D2,D0,E1", 0, 1, "C", "1 0"}, {"D1,D2,D0", 0, 1, "D", "0 3"}, {"D1,D2,D0", 0, 1, "C", "0 0"}, {"D1,D2,D0", 0, 1, "E", "3 0"},
		{"A1,B2,B3,C4", 0, 2, "B2", "1 1"}, {"A1,B2,B3,C4", 0, 2, "B4", "3 0"}, {"A1,B2,B3,C4", 0, 2, "B ", "1 0"}, {"A1,B2,B3,C4", 1, 2, "3", "2 1"},
		{" 1, 2,A1,01", 0, 1, " ", "0 2"}, {" 1, 2,A1,01", 0, 1, "0", "3 1"}, {" 1, 2,A1,01", 0, 1, "9", "4 0"}, {" 1, 2,A1,01", 0, 1, "Z", "3 0"},
	} {
		f := impl.Field{From: x.from, To: x.to}
		at, count, code := impl.FindCards(listed(x.texts), f, x.text)
		same(t, fmt.Sprintf("FindCards of %s by %v, %q", x.texts, f, x.text), x.want+" 0", at, count, code)
	}
	// Each text of one character, in decks that have every other one of them, several times.
	for turn := range 2 {
		var deck []impl.Card
		for k := turn; k < 40; k += 4 {
			deck = append(deck, copies(k%5, card(charMasks()[k], 9))...)
		}
		for _, char := range allChars() {
			checkFound(t, deck, impl.Field{From: 0, To: 1}, string(char))
		}
	}
	for _, texts := range []string{"B,A", "A,C,B", "A,B,A", "9,0"} {
		for _, text := range []string{"A", "B", " ", "9"} {
			fails(t, impl.ErrState, impl.FindCards, listed(texts), impl.Field{From: 0, To: 1}, text)
		}
	}
}

func TestInsertCard(t *testing.T) {
	for _, x := range []struct {
		texts    string
		from, to int64
		card     string
		want     string
	}{
		{"", 0, 1, "A1", "A1"}, {"", 0, 2, "A1", "A1"},
		// In front of all, behind all, between two, and behind all equal ones.
		{"B1,D1", 0, 1, "A1", "A1,B1,D1"}, {"B1,D1", 0, 1, "E1", "B1,D1,E1"}, {"B1,D1", 0, 1, "C1", "B1,C1,D1"}, {"B1,D1", 0, 1, "B0", "B1,B0,D1"}, {"B1,D1", 0, 1, "D0", "B1,D1,D0"},
		{"B1,B5,B3,D1", 0, 1, "B2", "B1,B5,B3,B2,D1"}, {"B1,B5,B3", 0, 1, "B2", "B1,B5,B3,B2"}, {"B1,B1", 0, 2, "B1", "B1,B1,B1"}, {"A1,C1,C1", 0, 1, "C0", "A1,C1,C1,C0"},
		{"B1,A2,B3", 1, 2, "Z2", "B1,A2,Z2,B3"}, {"A0,A1,B0", 0, 2, "A2", "A0,A1,A2,B0"}, {"A,Z,0", 0, 1, "9", "A,Z,0,9"}, {"A,Z,0", 0, 1, " ", " ,A,Z,0"},
	} {
		f := impl.Field{From: x.from, To: x.to}
		got, code := impl.InsertCard(listed(x.texts), cardOf(x.card), f)
		same(t, fmt.Sprintf("InsertCard of %s by %v, %s", x.texts, f, x.card), x.want+" 0", textsOf(got), code)
	}
	// Columns outside of the field need no characters.
	got, code := impl.InsertCard([]impl.Card{card(9, 3), card(16, 7)}, card(9, 4095), impl.Field{From: 0, To: 1})
	same(t, "columns outside of the field", fmt.Sprint([]impl.Card{card(9, 3), card(9, 4095), card(16, 7)}, 0), got, code)
}

// TestErrorsOfInsertCard checks the errors of a card that is put into a deck.
func TestErrorsOfInsertCard(t *testing.T) {
	first, deck := impl.Field{From: 0, To: 1}, listed("A1,C1")
	for _, c := range append(wrongCards(), card(9, 4096), card(9, -1)) {
		for _, f := range append(wrongFields(2), first, impl.Field{From: 0, To: 2}) {
			for _, list := range [][]impl.Card{nil, {}, deck, listed("C1,A1"), {card(3, 3)}, copies(impl.MaxDeck, card(9, 9))} {
				fails(t, impl.ErrInvalid, impl.InsertCard, list, c, f)
			}
		}
	}
	// A field of the deck that the card has not, or the other way round, also if a column has no character or the deck is not sorted.
	for _, list := range [][]impl.Card{deck, listed("C1,A1"), {card(3, 3)}, copies(impl.MaxDeck, card(9, 9))} {
		fails(t, impl.ErrRange, impl.InsertCard, list, card(9), impl.Field{From: 0, To: 2})
		fails(t, impl.ErrRange, impl.InsertCard, list, card(3), impl.Field{From: 1, To: 2})
		fails(t, impl.ErrRange, impl.InsertCard, list, card(9, 9, 3), impl.Field{From: 0, To: 3})
	}
	fails(t, impl.ErrRange, impl.InsertCard, []impl.Card{}, card(9), impl.Field{From: 0, To: 2})
	fails(t, impl.ErrRange, impl.InsertCard, []impl.Card{}, card(3), impl.Field{From: 1, To: 2})
	// A column without a character is told ahead of different numbers of columns, a deck that is not sorted, and too many cards.
	for _, mask := range illegalMasks() {
		for _, list := range [][]impl.Card{nil, {}, deck, listed("C1,A1"), listed("A,B"), listed("B,A"), copies(impl.MaxDeck, card(9, 9))} {
			fails(t, impl.ErrFormat, impl.InsertCard, list, card(mask, 9), first)
		}
		for _, c := range []impl.Card{card(9, 9), card(9), card(mask, 9), card(mask)} {
			fails(t, impl.ErrFormat, impl.InsertCard, []impl.Card{card(16, 9), card(9, 9), card(mask, 9)}, c, first)
			fails(t, impl.ErrFormat, impl.InsertCard, append(copies(impl.MaxDeck-1, card(9, 9)), card(mask, 9)), c, first)
		}
	}
	// Another number of columns is told ahead of a deck that is not sorted, and this ahead of too many cards.
	for _, list := range [][]impl.Card{deck, listed("C1,A1"), copies(impl.MaxDeck, card(9, 9)), copies(1, card(16, 9))} {
		for _, c := range []impl.Card{card(9), card(9, 9, 9), wide(impl.MaxColumns, 9)} {
			fails(t, impl.ErrClash, impl.InsertCard, list, c, first)
		}
	}
	fails(t, impl.ErrState, impl.InsertCard, listed("C1,A1"), cardOf("B1"), first)
	fails(t, impl.ErrState, impl.InsertCard, listed("C1,A1"), cardOf("Z1"), first)
	fails(t, impl.ErrState, impl.InsertCard, listed("A1,C1,B1"), cardOf("A1"), first)
}

// bothDecks are the functions with two decks and a field.
func bothDecks() []any { return []any{impl.MergeDecks, impl.MatchDecks} }

// TestErrorsOfBothDecks checks the errors of two decks, and their order: each over both decks before the next one.
func TestErrorsOfBothDecks(t *testing.T) {
	first := impl.Field{From: 0, To: 1}
	for _, f := range bothDecks() {
		for _, deck := range append(goodDecks(), listed("C1,A1"), []impl.Card{card(3, 3), card(9, 9)}) {
			for _, wrong := range wrongDecks() {
				// A field that is none of the other deck, too.
				for _, field := range append(wrongFields(columnsOf(deck)), wrongFields(columnsOf(wrong))[5], first, impl.Field{From: 0, To: 2}) {
					fails(t, impl.ErrInvalid, f, deck, wrong, field)
					fails(t, impl.ErrInvalid, f, wrong, deck, field)
				}
			}
			for _, other := range append(goodDecks(), listed("C1,A1"), []impl.Card{card(3, 3), card(9, 9)}) {
				// The columns of one of both are enough for some of these fields.
				for _, field := range append(wrongFields(min(columnsOf(deck), columnsOf(other))), impl.Field{From: 0, To: 20}) {
					if min(columnsOf(deck), columnsOf(other)) < field.To {
						fails(t, impl.ErrRange, f, deck, other, field)
					}
				}
			}
		}
		for _, wrong := range wrongDecks() {
			fails(t, impl.ErrInvalid, f, wrong, wrong, first)
		}
		for _, mask := range illegalMasks() {
			wrong := []impl.Card{card(16, 9), card(mask, 9), card(9, 9)}
			for _, other := range [][]impl.Card{nil, {}, listed("A1"), listed("C1,A1"), listed("A"), listed("ABC"), listed("C,A"), copies(impl.MaxDeck, card(9, 9)), wrong} {
				// This is told ahead of different numbers of columns, decks that are not sorted, and too many cards.
				fails(t, impl.ErrFormat, f, wrong, other, first)
				fails(t, impl.ErrFormat, f, other, wrong, first)
			}
			for _, other := range [][]impl.Card{listed("A"), {card(3)}} {
				fails(t, impl.ErrRange, f, wrong, other, impl.Field{From: 0, To: 2})
				fails(t, impl.ErrRange, f, other, wrong, impl.Field{From: 0, To: 2})
			}
		}
		for _, texts := range []string{"B1,A1", "A1,C1,B1", "A2,A1,B1,A1"} {
			for _, other := range [][]impl.Card{nil, {}, listed("A1"), listed("C1,A1"), copies(impl.MaxDeck, card(9, 9))} {
				fails(t, impl.ErrState, f, listed(texts), other, first)
				fails(t, impl.ErrState, f, other, listed(texts), first)
			}
		}
	}
}

// TestClashOfDecks checks that only decks with cards that have different numbers of columns clash, ahead of decks that are not sorted, and of too many cards.
func TestClashOfDecks(t *testing.T) {
	first := impl.Field{From: 0, To: 1}
	for one := 1; one <= impl.MaxColumns; one++ {
		for two := 1; two <= impl.MaxColumns; two++ {
			if one == two {
				continue
			}
			a, b := []impl.Card{wide(one, 16), wide(one, 9)}, []impl.Card{wide(two, 16), wide(two, 9)}
			fails(t, impl.ErrClash, impl.MergeDecks, a, b, first)
			fails(t, impl.ErrClash, impl.MergeDecks, a[1:], b[1:], first)
			fails(t, impl.ErrClash, impl.MergeDecks, a, b[1:], first)
			fails(t, impl.ErrClash, impl.MergeDecks, a[1:], b, first)
			fails(t, impl.ErrClash, impl.MergeDecks, copies(impl.MaxDeck, a[1]), b[1:], first)
			fails(t, impl.ErrState, impl.MergeDecks, a, b[2:], first)
			fails(t, impl.ErrState, impl.MergeDecks, a[2:], b, first)
			// MatchDecks compares them all the same.
			fails(t, impl.ErrState, impl.MatchDecks, a, b, first)
			lists, code := impl.MatchDecks(a[1:], b[1:], first)
			same(t, "cards that are matched", fmt.Sprint([][]impl.Card{a[1:], b[1:], nil, nil}, 0), lists, code)
			lists, code = impl.MatchDecks(a[:1], b[1:], first)
			same(t, "cards that are not matched", fmt.Sprint([][]impl.Card{nil, nil, a[:1], b[1:]}, 0), lists, code)
		}
	}
}

// withDeck are calls of the functions with one deck, with a text of blanks where they want one.
func withDeck(deck []impl.Card, f impl.Field) []trial {
	text := ""
	if 0 < f.To-f.From && f.To-f.From < 100 {
		text = strings.Repeat(" ", int(f.To-f.From))
	}
	return []trial{
		{"SequenceErrors", impl.SequenceErrors, []any{deck, f}}, {"GroupsOf", impl.GroupsOf, []any{deck, f}}, {"FirstOfGroups", impl.FirstOfGroups, []any{deck, f}},
		{"SelectEqual", impl.SelectEqual, []any{deck, f, text}}, {"SelectBetween", impl.SelectBetween, []any{deck, f, text, text}}, {"FindCards", impl.FindCards, []any{deck, f, text}},
		{"InsertCard", impl.InsertCard, []any{deck, wide(int(columnsOf(deck)), 9), f}},
	}
}

// TestErrorsOfDecksInCollator checks the errors of a deck, and their order.
func TestErrorsOfDecksInCollator(t *testing.T) {
	for _, deck := range wrongDecks() {
		for _, f := range append(wrongFields(columnsOf(deck)), impl.Field{From: 0, To: 1}, impl.Field{From: 0, To: 2}) {
			allFail(t, impl.ErrInvalid, withDeck(deck, f))
			for _, text := range []string{"", "A", "a", "ab", "\xff"} {
				fails(t, impl.ErrInvalid, impl.SelectEqual, deck, f, text)
				fails(t, impl.ErrInvalid, impl.SelectBetween, deck, f, text, "A")
				fails(t, impl.ErrInvalid, impl.SelectBetween, deck, f, "A", text)
				fails(t, impl.ErrInvalid, impl.FindCards, deck, f, text)
			}
		}
	}
	// A wrong field is told ahead of a column without a character, and of a deck that is not sorted.
	for _, deck := range append(goodDecks(), listed("C1,A1"), []impl.Card{card(3), card(9)}) {
		for _, f := range wrongFields(columnsOf(deck)) {
			allFail(t, impl.ErrRange, withDeck(deck, f))
			for _, text := range []string{"a", "ab", "\xff"} {
				fails(t, impl.ErrRange, impl.SelectEqual, deck, f, text)
				fails(t, impl.ErrRange, impl.SelectBetween, deck, f, text, text)
				fails(t, impl.ErrRange, impl.FindCards, deck, f, text)
			}
		}
	}
	for _, mask := range illegalMasks() {
		for _, size := range []int{1, 2, 3, impl.MaxDeck - 1} {
			for at := range size {
				// The deck is not sorted, but for one card, and the column may be behind the one that decides.
				deck := numbered(slices.Repeat([]int64{16, 9}, size)[:size]...)
				deck[at].Holes[1] = mask
				for _, f := range fieldsOf(3) {
					if f.From <= 1 && 1 < f.To {
						allFail(t, impl.ErrFormat, withDeck(deck, f))
					} else {
						checkNeighbours(t, deck, f)
						checkInsert(t, deck, wide(3, 9), f)
					}
				}
				checkEqual(t, deck, impl.Field{From: 0, To: 1}, "A")
				checkEqual(t, deck, impl.Field{From: 1, To: 2}, "A")
				checkBetween(t, deck, impl.Field{From: 0, To: 1}, "A", "Z")
			}
		}
	}
}

// TestErrorsOfTextsInCollator checks the errors of texts, and their order, with decks of several kinds.
func TestErrorsOfTextsInCollator(t *testing.T) {
	wide := impl.Field{From: 1, To: 3}
	right := []string{"AB", "  ", "A ", " -", "09"}
	short := []string{"", "A", "ABC", "A B", " ", "ab ", "a", "\xff", "\u0141", "\u00e9A", strings.Repeat("A", 20), strings.Repeat("a", 1000)}
	foreign := []string{"ab", "Ab", "aB", "A\n", "\tA", "A\x00", "\xff\xfe", "\u00e9", "\u00c1", "A_", "+1", "1.", "A\xc1", "\x1fA", "!A", "A:", "A@", "[A"}
	short = slices.DeleteFunc(short, func(s string) bool { return len(s) == 2 })
	for _, deck := range [][]impl.Card{nil, {}, listed("XAB,XAC"), listed("XAC,XAB"), {card(9, 3, 9)}, {card(9, 9, 3), card(9, 0, 9)}, copies(impl.MaxDeck, card(9, 9, 9))} {
		for _, text := range short {
			fails(t, impl.ErrRange, impl.SelectEqual, deck, wide, text)
			fails(t, impl.ErrRange, impl.FindCards, deck, wide, text)
			// One of both texts is enough, also if the other one has a byte that is no character.
			for _, other := range slices.Concat(right, short, foreign) {
				fails(t, impl.ErrRange, impl.SelectBetween, deck, wide, text, other)
				fails(t, impl.ErrRange, impl.SelectBetween, deck, wide, other, text)
			}
		}
		for _, text := range foreign {
			fails(t, impl.ErrSyntax, impl.SelectEqual, deck, wide, text)
			fails(t, impl.ErrSyntax, impl.FindCards, deck, wide, text)
			for _, other := range slices.Concat(right, foreign) {
				fails(t, impl.ErrSyntax, impl.SelectBetween, deck, wide, text, other)
				fails(t, impl.ErrSyntax, impl.SelectBetween, deck, wide, other, text)
			}
		}
		for _, text := range right {
			checkEqual(t, deck, wide, text)
			for _, other := range right {
				checkBetween(t, deck, wide, text, other)
			}
		}
	}
	// A column without a character is told ahead of a deck that is not sorted.
	fails(t, impl.ErrFormat, impl.FindCards, []impl.Card{cardOf("XAC"), cardOf("XAB"), card(9, 9, 3)}, wide, "AB")
	fails(t, impl.ErrState, impl.FindCards, []impl.Card{cardOf("XAC"), cardOf("XAB"), card(3, 9, 9)}, wide, "AB")
	got, code := impl.SelectEqual([]impl.Card{cardOf("XAC"), cardOf("XAB"), card(3, 9, 9)}, wide, "AB")
	same(t, "a deck that is not sorted", "XAB 0", textsOf(got), code)
}

// TestBytesOfTextsInCollator checks all bytes in texts of one column and of two.
func TestBytesOfTextsInCollator(t *testing.T) {
	deck := numbered(charMasks()...)
	for b := range 256 {
		text := string([]byte{byte(b)})
		code, find := checkEqual(t, deck, impl.Field{From: 0, To: 1}, text)
		want := int64(impl.OK)
		if !strings.Contains(allChars(), text) {
			want = impl.ErrSyntax
		}
		same(t, fmt.Sprintf("the byte %d", b), fmt.Sprint(want, want, want, want), code, find, checkBetween(t, deck, impl.Field{From: 0, To: 1}, text, "9"), checkBetween(t, deck, impl.Field{From: 0, To: 1}, " ", text))
		for _, none := range [][]impl.Card{nil, deck} {
			checkEqual(t, none, impl.Field{From: 0, To: 2}, "A"+text)
			checkEqual(t, none, impl.Field{From: 0, To: 2}, text+"A")
			checkBetween(t, none, impl.Field{From: 0, To: 2}, text+"0", "B"+text)
		}
	}
}

// TestCollatorOfAllKinds compares all functions with the plain ones for all combinations of some decks, fields, texts and cards, most of which are wrong in one or several ways.
func TestCollatorOfAllKinds(t *testing.T) {
	decks := [][]impl.Card{
		nil, {}, {{}}, {card(9)}, {card(3)}, {card(4096)}, {card(9), card(9, 9)}, listed("A1,C1"), listed("C1,A1"), listed("A2,A1,B1"), {card(9, 3), card(9, 3)}, {card(9, 9), card(3, 9), card(9, 9)}, listed("A1X,B1X"), listed("B1X,A1X,A2Y"),
		copies(39, card(9, 9)), copies(40, card(9, 9)), copies(41, card(9, 9)), append(copies(39, card(16, 9)), card(9, 9)), {wide(20, 9)}, {wide(20, 9), wide(20, 1)}, {wide(21, 9)},
	}
	fields := []impl.Field{{}, {From: 0, To: 1}, {From: 1, To: 2}, {From: 0, To: 2}, {From: 1, To: 3}, {From: 2, To: 1}, {From: -1, To: 1}, {From: 0, To: 20}, {From: 19, To: 20}, {From: 0, To: 21}, {From: 20, To: 21}, {From: math.MinInt64, To: math.MaxInt64}, {From: math.MaxInt64, To: math.MinInt64}, {From: math.MaxInt64 - 1, To: math.MaxInt64}}
	texts := []string{"", "A", "1", "a", "A1", "C1", "Aa", "  ", "A1X", strings.Repeat("A", 20), strings.Repeat("A", 21)}
	cards := []impl.Card{{}, card(9), card(3), card(4096), cardOf("A1"), cardOf("Z9"), card(9, 3), card(3, 9), cardOf("B1X"), wide(20, 9), wide(21, 9)}
	codes := map[int64]int{}
	for _, f := range fields {
		for _, a := range decks {
			codes[checkNeighbours(t, a, f)]++
			for _, b := range decks {
				codes[checkMerge(t, a, b, f)]++
				codes[checkMatch(t, a, b, f)]++
			}
			for _, c := range cards {
				codes[checkInsert(t, a, c, f)]++
			}
			for _, low := range texts {
				checkEqual(t, a, f, low)
				for _, high := range texts {
					codes[checkBetween(t, a, f, low, high)]++
				}
			}
		}
	}
	// The combinations have all these errors.
	for _, code := range []int64{impl.OK, impl.ErrInvalid, impl.ErrRange, impl.ErrFull, impl.ErrState, impl.ErrSyntax, impl.ErrFormat, impl.ErrClash} {
		if codes[code] == 0 {
			t.Errorf("no combination with the code %d: %v", code, codes)
		}
	}
}
