package tests

import (
	"fmt"
	"math"
	"math/rand/v2"
	"reflect"
	"slices"
	"strings"
	"testing"

	"loop.example/g01012/impl"
)

// A trial is a call of a function with some arguments.
type trial struct {
	name      string
	function  any
	arguments []any
}

// edges are the numbers with which the functions are called.
func edges() []int64 {
	return []int64{math.MinInt64, math.MinInt64 + 1, -1 << 32, -21, -1, 0, 1, 2, 3, 9, 10, 11, 12, 13, 19, 20, 21, 1 << 32, math.MaxInt64 - 1, math.MaxInt64}
}

// trialsOfBasics are calls of all functions of chapter 1.
func trialsOfBasics() []trial {
	var list []trial
	for _, n := range edges() {
		list = append(list, trial{"CodeName", impl.CodeName, []any{n}}, trial{"Decimal", impl.Decimal, []any{n}})
	}
	for _, s := range []string{"", " ", "a", "tray-3", " a  b ", "-", "-0", "12", "-12", "999999999999999999", "\xff\x00 \xe2"} {
		list = append(list, trial{"IsName", impl.IsName, []any{s}}, trial{"ReadDecimal", impl.ReadDecimal, []any{s}}, trial{"SplitWords", impl.SplitWords, []any{s}})
	}
	return list
}

// trialsOfCards are calls of all functions of chapter 2.
func trialsOfCards() []trial {
	var list []trial
	for _, n := range edges() {
		list = append(list, trial{"BlankCard", impl.BlankCard, []any{n}}, trial{"BitOf", impl.BitOf, []any{n}})
	}
	cards := append(someCards(), wrongCards()...)
	for _, c := range cards {
		list = append(list, trial{"ValidCard", impl.ValidCard, []any{c}}, trial{"CountHoles", impl.CountHoles, []any{c}}, trial{"CardPicture", impl.CardPicture, []any{c}})
		for _, n := range edges() {
			for _, m := range edges() {
				list = append(list, trial{"PunchHole", impl.PunchHole, []any{c, n, m}}, trial{"HasHole", impl.HasHole, []any{c, n, m}}, trial{"PartOf", impl.PartOf, []any{c, impl.Field{From: n, To: m}}})
			}
		}
		for _, d := range cards {
			list = append(list, trial{"SameCard", impl.SameCard, []any{c, d}}, trial{"Overlay", impl.Overlay, []any{c, d}})
		}
	}
	decks := [][]impl.Card{nil, {}, {{}}, {card(9)}, {card(9), card(4)}, {card(9), card(4, 0)}, {card(9), {}}, cards, copies(impl.MaxDeck, card(1, 2)), copies(impl.MaxDeck+1, card(1))}
	for _, a := range decks {
		list = append(list, trial{"ValidDeck", impl.ValidDeck, []any{a}})
		for _, b := range decks {
			list = append(list, trial{"SameDeck", impl.SameDeck, []any{a, b}})
		}
	}
	return list
}

// trialsOfCodes are calls of all functions of chapter 3.
func trialsOfCodes() []trial {
	var list []trial
	for b := range 256 {
		list = append(list, trial{"CodeOf", impl.CodeOf, []any{byte(b)}}, trial{"RankOf", impl.RankOf, []any{byte(b)}})
	}
	for _, n := range append(edges(), 6, 130, impl.AllRows, impl.AllRows+1, math.MinInt64+9) {
		list = append(list, trial{"CharOf", impl.CharOf, []any{n}})
		for _, s := range []string{"", " ", "A-1", "a", "\u0141", "\xff\x00", allChars()[:20], allChars()[19:], allChars()} {
			list = append(list, trial{"PunchText", impl.PunchText, []any{s, n}})
		}
	}
	cards := append(someCards(), wrongCards()...)
	cards = append(cards, cardOf("AB-12"), cardOf(" 0 1"), card(4, 8, 18), card(6), card(9, 3), wide(13, 16), wide(impl.MaxColumns, 16))
	for _, c := range cards {
		list = append(list, trial{"ReadText", impl.ReadText, []any{c}}, trial{"IllegalColumns", impl.IllegalColumns, []any{c}})
		for _, from := range edges() {
			for _, to := range edges() {
				f := impl.Field{From: from, To: to}
				list = append(list, trial{"NumberIn", impl.NumberIn, []any{c, f}}, trial{"IsBlankField", impl.IsBlankField, []any{c, f}})
				for _, n := range []int64{math.MinInt64, -impl.MaxCardNumber - 1, -impl.MaxCardNumber, -10, -1, 0, 1, 123, impl.MaxCardNumber, impl.MaxCardNumber + 1, math.MaxInt64} {
					list = append(list, trial{"PunchNumber", impl.PunchNumber, []any{c, f, n}})
				}
			}
		}
		for _, d := range cards {
			for _, f := range []impl.Field{{}, {From: 0, To: 1}, {From: 0, To: 3}, {From: 1, To: 4}, {From: 0, To: impl.MaxColumns}, {From: -1, To: 1}, {From: math.MinInt64, To: math.MaxInt64}, {From: math.MaxInt64, To: math.MinInt64}} {
				list = append(list, trial{"CompareFields", impl.CompareFields, []any{c, d, f}})
			}
		}
	}
	return list
}

// trialsOfLayouts are calls of all functions of chapter 4.
func trialsOfLayouts() []trial {
	var list []trial
	layouts := append(someLayouts(), wrongLayouts()[:30]...)
	// Copying thousands of items again and again would take too long.
	layouts = slices.DeleteFunc(layouts, func(l impl.Layout) bool { return len(l.Items) > impl.MaxColumns })
	items := slices.Concat(goodItems(), wrongItems(impl.MaxColumns))
	cards := []impl.Card{{}, card(3), card(-1), card(0, 0, 0), cardOf("AB0-12 "), cardOf("AB 012 "), cardOf(" B    X"), wide(7, 0), wide(7, impl.AllRows), wide(7, -1), wide(impl.MaxColumns, 0), wide(impl.MaxColumns, 16), wide(impl.MaxColumns+1, 0)}
	decks := [][]impl.Card{nil, {}, {{}}, {cardOf("AB 012 "), cardOf("AB 01K ")}, {cardOf("AB 012 "), cardOf("AB ")}, cards, copies(impl.MaxDeck, cardOf("AB 012 ")), copies(impl.MaxDeck+1, cardOf("AB 012 "))}
	records := [][]string{nil, {}, {"A"}, {"AB", "-12"}, {"AB ", "-12"}, {"AB", "1000"}, {"ab", "1000", "1"}, slices.Repeat([]string{"1"}, 12), slices.Repeat([]string{""}, 13)}
	names := []string{"", "who", "qty", "a", "Who", "\xff"}
	for _, l := range layouts {
		list = append(list, trial{"ValidLayout", impl.ValidLayout, []any{l}}, trial{"FreeColumns", impl.FreeColumns, []any{l}}, trial{"LayoutText", impl.LayoutText, []any{l}})
		for _, x := range items {
			list = append(list, trial{"AddItem", impl.AddItem, []any{l, x}})
		}
		for _, other := range layouts {
			list = append(list, trial{"SameLayout", impl.SameLayout, []any{l, other}})
		}
		for _, values := range records {
			list = append(list, trial{"CardFor", impl.CardFor, []any{l, values}})
		}
		for _, c := range cards {
			list = append(list, trial{"RecordOf", impl.RecordOf, []any{l, c}})
		}
		for _, name := range names {
			list = append(list, trial{"ItemNamed", impl.ItemNamed, []any{l, name}})
			for _, value := range []string{"", "AB", "AB ", "7", "-12", "07", "\xff", "1000000000000"} {
				for _, c := range cards {
					list = append(list, trial{"ChangeItem", impl.ChangeItem, []any{l, c, name, value}})
				}
				for _, deck := range decks {
					list = append(list, trial{"CountValue", impl.CountValue, []any{l, deck, name, value}})
				}
			}
			for _, deck := range decks {
				list = append(list, trial{"ItemTotal", impl.ItemTotal, []any{l, deck, name}})
			}
		}
	}
	for _, s := range append(wrongTexts(), texts()...) {
		list = append(list, trial{"ReadLayout", impl.ReadLayout, []any{s}})
	}
	return list
}

// trialsOfKeypunch are calls of all functions of chapter 5.
func trialsOfKeypunch() []trial {
	var list []trial
	cards := []impl.Card{{}, card(), card(9), card(3, impl.AllRows, 0), cardOf("AB12 Q"), cardOf("CD34 Q"), worn(6), wide(6, 4096), card(-1), wide(impl.MaxColumns, 0), wide(impl.MaxColumns, 16), wide(impl.MaxColumns+1, 0)}
	decks := [][]impl.Card{nil, {}, {{}}, {card(9)}, {cardOf("AB12 Q"), cardOf("CD34 R")}, {card(9), card(9, 9)}, cards, copies(impl.MaxDeck, cardOf("AB12 Q")), copies(impl.MaxDeck+1, card(9))}
	texts := [][]string{nil, {}, {""}, {"A"}, {"AB12", "CD34"}, {"AB12", "CD3a", "A"}, {"7777777777"}, slices.Repeat([]string{"AB12"}, impl.MaxDeck), slices.Repeat([]string{"A"}, impl.MaxDeck), slices.Repeat([]string{""}, impl.MaxDeck+1)}
	for _, program := range []string{"", "m", "s", "d", "mmnnsd", "dsm", "ddd", "x", "M", "mn\xff", "d\u016d", strings.Repeat("mnsd", 5), strings.Repeat("d", impl.MaxColumns), strings.Repeat("d", impl.MaxColumns+1)} {
		list = append(list, trial{"ValidProgram", impl.ValidProgram, []any{program}}, trial{"KeysNeeded", impl.KeysNeeded, []any{program}}, trial{"ProgramRuns", impl.ProgramRuns, []any{program}})
		for _, n := range append(edges(), 100, 1000000, 1000001) {
			list = append(list, trial{"StrokesSaved", impl.StrokesSaved, []any{program, n}})
		}
		for _, before := range cards {
			for _, keys := range []string{"", "A", "AB12", "ABC2", "aB12", "7777777777", "\xff", strings.Repeat("A", 1000)} {
				list = append(list, trial{"PunchByProgram", impl.PunchByProgram, []any{program, before, keys}})
				for _, c := range cards {
					list = append(list, trial{"KeysFor", impl.KeysFor, []any{program, before, c}}, trial{"VerifyCard", impl.VerifyCard, []any{program, before, c, keys}})
				}
			}
			for _, keys := range texts {
				list = append(list, trial{"PunchAll", impl.PunchAll, []any{program, before, keys}})
				for _, deck := range decks {
					list = append(list, trial{"VerifyAll", impl.VerifyAll, []any{program, before, deck, keys}})
				}
			}
		}
	}
	for _, c := range append(cards, slices.Concat(someCards(), wrongCards()[:8])...) {
		for _, n := range edges() {
			for _, char := range []byte("9 a\x00\xff") {
				list = append(list, trial{"CorrectColumn", impl.CorrectColumn, []any{c, n, char}})
			}
		}
	}
	for _, s := range append(wrongRuns(), "m2 n2 s1 d1", "m20", "s1") {
		list = append(list, trial{"ReadRuns", impl.ReadRuns, []any{s}})
	}
	return list
}

// trialsOfDamages are calls of all functions of chapter 6.
func trialsOfDamages() []trial {
	var list []trial
	cards := slices.Concat(someCards(), wrongCards(), []impl.Card{card(3), card(25), card(9, 0, 9), card(0, 9, 0), card(0, 0, 0), cardOf("AB1"), cardOf(" AB"), worn(19), worn(impl.MaxColumns)})
	// Copying a card of a thousand columns again and again would take too long.
	cards = slices.DeleteFunc(cards, func(c impl.Card) bool { return len(c.Holes) > 30 })
	decks := [][]impl.Card{nil, {}, {{}}, {card(9)}, {card(9), card(4), card(9)}, {card(9), card(4, 0)}, {card(9), {}}, {cardOf("AB1"), cardOf("AC1")}, cards, copies(impl.MaxDeck, cardOf("ZZZ")), copies(impl.MaxDeck, wide(impl.MaxColumns, 0)), copies(impl.MaxDeck+1, card(9))}
	for _, n := range append(edges(), 25, 2048, impl.AllRows-1, impl.AllRows, impl.AllRows+1) {
		list = append(list, trial{"RepairColumn", impl.RepairColumn, []any{n}})
	}
	for _, c := range cards {
		list = append(list, trial{"LacedColumns", impl.LacedColumns, []any{c}}, trial{"RepairCard", impl.RepairCard, []any{c}})
		for _, n := range append(edges(), -20, -19, -2) {
			list = append(list, trial{"LaceColumn", impl.LaceColumn, []any{c, n}}, trial{"ShiftCard", impl.ShiftCard, []any{c, n}})
			for _, m := range edges() {
				list = append(list, trial{"TornColumns", impl.TornColumns, []any{c, impl.Field{From: n, To: m}}})
			}
		}
		for _, d := range cards {
			list = append(list, trial{"DistanceOf", impl.DistanceOf, []any{c, d}}, trial{"ShiftOf", impl.ShiftOf, []any{c, d}}, trial{"AddedHoles", impl.AddedHoles, []any{c, d}}, trial{"LostHoles", impl.LostHoles, []any{c, d}})
		}
		for _, deck := range decks {
			list = append(list, trial{"NearestCard", impl.NearestCard, []any{deck, c}})
		}
	}
	return list
}

// trialsOfSorter are calls of all functions of chapter 7.
func trialsOfSorter() []trial {
	var list []trial
	decks := slices.Concat(goodDecks(), wrongDecks(), [][]impl.Card{deckOf("A1", "A1", "B2", " 0"), numbered(allMasks()[100:140]...), numbered(charMasks()...)})
	// Copying a card of a thousand columns again and again would take too long.
	decks = slices.DeleteFunc(decks, func(deck []impl.Card) bool { return len(deck) > 0 && len(deck[0].Holes) > 30 })
	var passes []impl.Pass
	for _, column := range edges() {
		for _, mode := range []int64{math.MinInt64, -1, 0, impl.ModeDigits, impl.ModeZones, 3, math.MaxInt64} {
			passes = append(passes, impl.Pass{Column: column, Mode: mode})
		}
	}
	lists := [][]impl.Pass{nil, {}, passes[:1], passes, rightPasses(1), rightPasses(3), rightPasses(impl.MaxColumns), append(rightPasses(impl.MaxColumns), passes[0]), append(rightPasses(2), passes...), slices.Repeat(rightPasses(1)[1:], impl.MaxPasses+1)}
	for _, l := range lists {
		list = append(list, trial{"PassText", impl.PassText, []any{l}})
	}
	for _, c := range append(someCards(), wrongCards()[:8]...) {
		for _, p := range passes {
			list = append(list, trial{"PocketOf", impl.PocketOf, []any{c, p}})
		}
	}
	for _, deck := range decks {
		for _, p := range append(passes[len(passes)/2-40:], rightPasses(3)...) {
			list = append(list, trial{"SortPass", impl.SortPass, []any{deck, p}}, trial{"RunPass", impl.RunPass, []any{deck, p}})
		}
		for _, l := range lists {
			list = append(list, trial{"RunPasses", impl.RunPasses, []any{deck, l}})
		}
		for _, mode := range []int64{math.MinInt64, 0, impl.ModeDigits, impl.ModeZones, 3, math.MaxInt64} {
			for _, pockets := range [][][]impl.Card{nil, {}, {deck}, make([][]impl.Card, 13), inPockets(0, deck...), inPockets(10, deck...), inPockets(12, deck...), slices.Repeat([][]impl.Card{{}}, 14), slices.Repeat([][]impl.Card{deck}, 13)} {
				list = append(list, trial{"GatherCards", impl.GatherCards, []any{pockets, mode}})
			}
		}
		for _, from := range edges() {
			for _, to := range []int64{math.MinInt64, -1, 0, 1, 2, 3, 20, 21, math.MaxInt64} {
				for _, f := range sortings() {
					list = append(list, trial{"sorting", f, []any{deck, impl.Field{From: from, To: to}}})
				}
			}
		}
	}
	return list
}

// trialsOfPlans are calls of all functions of chapter 8.
func trialsOfPlans() []trial {
	var list []trial
	decks := slices.Concat(goodDecks(), wrongDecks(), [][]impl.Card{deckOf("A1", "A1", "B2", " 0"), deckOf("ABJK", "AB1J", "AAAA", "KABA", "BBBB"), numbered(allMasks()[100:140]...), numbered(charMasks()...)})
	// Copying a card of a thousand columns again and again would take too long.
	decks = slices.DeleteFunc(decks, func(deck []impl.Card) bool { return len(deck) > 0 && len(deck[0].Holes) > 30 })
	widest := planFor(impl.Field{From: 0, To: impl.MaxColumns})
	lists := [][]impl.Pass{nil, {}, words("0d"), words("0d 0z"), words("0z 0d"), words("1d 1z 0d 0z"), words("2d 0d 0z"), widest, append(widest, by(0, 1)), {by(0, 0)}, {by(0, 1), by(-1, 2)}, {by(0, 1), by(20, 1)}, {by(math.MinInt64, math.MaxInt64)}, {by(math.MaxInt64, math.MinInt64)}, slices.Repeat(words("0d"), 1000)}
	var fields []impl.Field
	for _, from := range edges() {
		for _, to := range append(edges(), 4, 5) {
			fields = append(fields, impl.Field{From: from, To: to})
		}
	}
	for _, f := range fields {
		list = append(list, trial{"FullPlan", impl.FullPlan, []any{f}}, trial{"DigitPlan", impl.DigitPlan, []any{f}})
		for _, l := range lists {
			list = append(list, trial{"AlwaysSorts", impl.AlwaysSorts, []any{f, l}})
		}
	}
	for _, l := range lists {
		for _, n := range append(edges(), 1000000, 1000001) {
			list = append(list, trial{"HandledCards", impl.HandledCards, []any{n, l}})
		}
	}
	for _, deck := range decks {
		for _, column := range edges() {
			for _, mode := range []int64{math.MinInt64, 0, impl.ModeDigits, impl.ModeZones, 3, math.MaxInt64} {
				list = append(list, trial{"IsIdlePass", impl.IsIdlePass, []any{deck, by(column, mode)}})
			}
		}
		for at, f := range fields {
			list = append(list, trial{"ShortPlan", impl.ShortPlan, []any{deck, f}}, trial{"FewestPasses", impl.FewestPasses, []any{deck, f}}, trial{"IsPlanFor", impl.IsPlanFor, []any{deck, f, lists[at%len(lists)]}})
		}
		for _, f := range []impl.Field{{From: 0, To: 1}, {From: 0, To: 2}, {From: 1, To: 3}, {From: 0, To: impl.MaxColumns}, {}} {
			for _, l := range lists {
				list = append(list, trial{"IsPlanFor", impl.IsPlanFor, []any{deck, f, l}})
			}
		}
	}
	return list
}

// trialsOfCollator are calls of all functions of chapter 9.
func trialsOfCollator() []trial {
	var list []trial
	decks := slices.Concat(goodDecks(), wrongDecks(), [][]impl.Card{deckOf("A1", "A1", "B2", "B3"), deckOf("A2", "B0", "B0", "C1"), deckOf("B1", "A1"), deckOf("ABC", "ABD"), sortedPlainly(numbered(charMasks()...), impl.Field{From: 0, To: 1}), numbered(charMasks()[5:30]...)})
	// Copying a card of a thousand columns again and again would take too long.
	decks = slices.DeleteFunc(decks, func(deck []impl.Card) bool { return len(deck) > 0 && len(deck[0].Holes) > 30 })
	cards := []impl.Card{{}, card(9), card(3), card(-1), cardOf("A1"), cardOf("B0"), cardOf("ABC"), card(9, 3, 0), wide(impl.MaxColumns, 9), wide(impl.MaxColumns+1, 9)}
	texts := []string{"", "A", "a", "\xff", "B0", "  ", "Ab", "\u0141", "ABC", strings.Repeat("A", impl.MaxColumns), strings.Repeat("a", 1000)}
	for _, deck := range decks {
		for _, from := range edges() {
			for _, to := range []int64{math.MinInt64, -1, 0, 1, 2, 3, 20, 21, math.MaxInt64} {
				f := impl.Field{From: from, To: to}
				list = append(list, trial{"SequenceErrors", impl.SequenceErrors, []any{deck, f}}, trial{"GroupsOf", impl.GroupsOf, []any{deck, f}}, trial{"FirstOfGroups", impl.FirstOfGroups, []any{deck, f}})
			}
		}
		for _, f := range []impl.Field{{}, {From: 0, To: 1}, {From: 0, To: 2}, {From: 1, To: 2}, {From: 0, To: impl.MaxColumns}, {From: 0, To: 1000}, {From: math.MinInt64, To: math.MaxInt64}, {From: math.MaxInt64, To: math.MinInt64}} {
			for _, other := range decks {
				list = append(list, trial{"MergeDecks", impl.MergeDecks, []any{deck, other, f}}, trial{"MatchDecks", impl.MatchDecks, []any{deck, other, f}})
			}
			for _, c := range cards {
				list = append(list, trial{"InsertCard", impl.InsertCard, []any{deck, c, f}})
			}
			for at, text := range texts {
				list = append(list, trial{"SelectEqual", impl.SelectEqual, []any{deck, f, text}}, trial{"FindCards", impl.FindCards, []any{deck, f, text}})
				list = append(list, trial{"SelectBetween", impl.SelectBetween, []any{deck, f, text, text}}, trial{"SelectBetween", impl.SelectBetween, []any{deck, f, text, texts[(at+1)%len(texts)]}})
			}
		}
	}
	return list
}

// trialsOfReproducer are calls of all functions of chapter 10.
func trialsOfReproducer() []trial {
	var list []trial
	decks := slices.Concat(goodDecks(), wrongDecks(), [][]impl.Card{deckOf("A-", " 1", "B-", " 2"), deckOf("A1", "B-"), {worn(19)}, copies(impl.MaxDeck, wide(13, 0)), {wide(3, 0), wide(3, 0)}})
	// Copying a card of a thousand columns again and again would take too long.
	decks = slices.DeleteFunc(decks, func(deck []impl.Card) bool { return len(deck) > 0 && len(deck[0].Holes) > 30 })
	var lists [][]impl.Copy
	for _, text := range []string{"", "0>0", "1>0 0>1", "0>0 0>1 0>2", "1>0 1>1", "19>19", "0>20", "20>0", "-1>0", "0>-1", "0>0 0>0", "2>1 1>0", "9223372036854775807>0", "0>-9223372036854775808"} {
		lists = append(lists, wired(text))
	}
	lists = append(lists, nil, manyCopies()[0], manyCopies()[2])
	for _, l := range lists {
		list = append(list, trial{"BackCopies", impl.BackCopies, []any{l}}, trial{"CopiesText", impl.CopiesText, []any{l}})
		for _, from := range edges() {
			for _, to := range edges() {
				list = append(list, trial{"ValidCopies", impl.ValidCopies, []any{l, from, to}})
			}
		}
		for _, other := range lists {
			list = append(list, trial{"JoinCopies", impl.JoinCopies, []any{l, other}})
		}
		for at, deck := range decks {
			other := decks[(at+1)%len(decks)]
			for _, b := range [][]impl.Card{nil, deck, other, {card(9)}, deckOf("A1", "B2", "C3"), copies(impl.MaxDeck, wide(impl.MaxColumns, 9))} {
				list = append(list, trial{"CompareDecks", impl.CompareDecks, []any{deck, b, l}})
			}
			for _, n := range edges() {
				list = append(list, trial{"ReproduceDeck", impl.ReproduceDeck, []any{deck, l, n}}, trial{"InterspersedGang", impl.InterspersedGang, []any{deck, n, l}})
			}
			for _, c := range append(slices.Clone(deck[:min(1, len(deck))]), impl.Card{}, card(9), card(-1), cardOf("A1"), wide(impl.MaxColumns, 9)) {
				list = append(list, trial{"GangPunch", impl.GangPunch, []any{c, deck, l}}, trial{"ReproduceCard", impl.ReproduceCard, []any{c, l, int64(at)}}, trial{"CompareCards", impl.CompareCards, []any{c, cardOf("B1"), l}}, trial{"CompareCards", impl.CompareCards, []any{cardOf("B1"), c, l}})
			}
		}
	}
	for _, deck := range decks {
		for _, f := range append(wrongFields(columnsOf(deck)), impl.Field{From: 0, To: 1}, impl.Field{From: 1, To: 3}, impl.Field{From: 0, To: 12}, impl.Field{From: 0, To: 13}) {
			for _, n := range append(edges(), 99, 960, impl.MaxCardNumber-1, impl.MaxCardNumber, impl.MaxCardNumber+1) {
				list = append(list, trial{"SerialPunch", impl.SerialPunch, []any{deck, f, n}})
			}
		}
	}
	for _, s := range append(wrongCopiesTexts(), "", "0>0", "3>0 2>1", "19>0 19>19") {
		list = append(list, trial{"ReadCopies", impl.ReadCopies, []any{s}})
	}
	return list
}

// trialsOfCounters are calls of all functions of chapter 11.
func trialsOfCounters() []trial {
	var list []trial
	numbers := append(edges(), 5, 8, 95, 99, 100, 123456789012, 999999999999, 1000000000000, -999999999999)
	counters := slices.Concat(rightCounters(), wrongCounters())
	for _, c := range counters {
		list = append(list, trial{"ValidCounter", impl.ValidCounter, []any{c}}, trial{"NumberShown", impl.NumberShown, []any{c}}, trial{"ComplementOf", impl.ComplementOf, []any{c}}, trial{"CounterText", impl.CounterText, []any{c}})
		for _, n := range numbers {
			list = append(list, trial{"AddToCounter", impl.AddToCounter, []any{c, n}}, trial{"TakeFromCounter", impl.TakeFromCounter, []any{c, n}}, trial{"CarriesOf", impl.CarriesOf, []any{c, n}}, trial{"SplitCounter", impl.SplitCounter, []any{c, n}})
		}
		for _, other := range counters {
			list = append(list, trial{"SameCounter", impl.SameCounter, []any{c, other}}, trial{"JoinCounters", impl.JoinCounters, []any{c, other}})
		}
	}
	for _, wheels := range edges() {
		for _, n := range numbers {
			list = append(list, trial{"SetCounter", impl.SetCounter, []any{wheels, n}})
			for _, numbers := range [][]int64{nil, {}, {n}, {n, -n}, {-5, n}, {9, 1, n}, slices.Repeat([]int64{n}, impl.MaxDeck), slices.Repeat([]int64{n}, impl.MaxDeck+1)} {
				list = append(list, trial{"BalanceAfter", impl.BalanceAfter, []any{wheels, numbers}})
			}
		}
	}
	for _, s := range append(wrongCounterTexts(), "0", "097", "000000000000", "999999999999") {
		list = append(list, trial{"ReadCounter", impl.ReadCounter, []any{s}})
	}
	return list
}

// trialsOfBoards are calls of all functions of chapter 12.
func trialsOfBoards() []trial {
	var list []trial
	boards := slices.Concat(rightBoards(), wrongBoards())
	for at, b := range boards {
		list = append(list, trial{"ValidBoard", impl.ValidBoard, []any{b}}, trial{"NetsOf", impl.NetsOf, []any{b}}, trial{"SneakPairs", impl.SneakPairs, []any{b}}, trial{"OpenEntries", impl.OpenEntries, []any{b}}, trial{"SpareWires", impl.SpareWires, []any{b}}, trial{"FewestCuts", impl.FewestCuts, []any{b}})
		for _, n := range append(edges(), 29, 30, 39, 40) {
			list = append(list, trial{"RemoveWire", impl.RemoveWire, []any{b, n}}, trial{"JoinedHubs", impl.JoinedHubs, []any{b, n}}, trial{"SourcesOf", impl.SourcesOf, []any{b, n}})
		}
		for _, w := range append(wrongWires(3), wrongWires(30)...) {
			list = append(list, trial{"AddWire", impl.AddWire, []any{b, w}})
		}
		list = append(list, trial{"AddWire", impl.AddWire, []any{b, impl.Wire{A: 0, B: 1}}})
		for _, c := range []impl.Card{{}, card(9), card(-1), card(9, 4), card(1, 2, 4), card(1, 2, 4096), wide(10, 9), worn(11), worn(impl.MaxColumns), wide(impl.MaxColumns+1, 9)} {
			list = append(list, trial{"RouteCard", impl.RouteCard, []any{b, c}})
		}
		for _, other := range boards[:min(at+2, len(boards))] {
			list = append(list, trial{"SameBoard", impl.SameBoard, []any{b, other}})
		}
	}
	random := rand.New(rand.NewPCG(12, 2))
	for range 300 {
		b := anyBoard(random)
		list = append(list, trial{"NetsOf", impl.NetsOf, []any{b}}, trial{"SneakPairs", impl.SneakPairs, []any{b}}, trial{"OpenEntries", impl.OpenEntries, []any{b}}, trial{"SpareWires", impl.SpareWires, []any{b}}, trial{"FewestCuts", impl.FewestCuts, []any{b}}, trial{"JoinedHubs", impl.JoinedHubs, []any{b, int64(0)}}, trial{"SourcesOf", impl.SourcesOf, []any{b, int64(0)}}, trial{"RemoveWire", impl.RemoveWire, []any{b, int64(0)}}, trial{"AddWire", impl.AddWire, []any{b, impl.Wire{A: 0, B: 1}}})
	}
	return list
}

// trialsOfTabulator are calls of all functions of chapter 13.
func trialsOfTabulator() []trial {
	var list []trial
	decks := slices.Concat(goodDecks(), wrongDecks(), [][]impl.Card{listed("A1,A2,B1"), listed("11,1 , 1,11"), listed("1J,2K,3-"), listed("A0102,A0303,B0501"), numbered(charMasks()...), copies(40, cardOf("SAMETEXT99999999999R"))})
	for _, from := range edges() {
		for _, to := range edges() {
			f, one := impl.Field{From: from, To: to}, columnsFrom(0, 1)
			for _, width := range []int64{math.MinInt64, -1, 0, 1, 12, 13, 20, 21, math.MaxInt64} {
				list = append(list, trial{"ValidSetup", impl.ValidSetup, []any{setup(f, one), width}}, trial{"ValidSetup", impl.ValidSetup, []any{setup(one, f, one), width}}, trial{"ValidSetup", impl.ValidSetup, []any{setup(f), width}})
			}
			for _, deck := range [][]impl.Card{nil, listed("A1,A2,B1"), copies(2, wide(impl.MaxColumns, 9))} {
				list = append(list, tabulations(setup(f, one), deck)...)
				list = append(list, tabulations(detailed(setup(one, f)), deck)...)
			}
		}
	}
	for _, deck := range decks {
		for _, group := range []impl.Field{{}, columnsFrom(0, 1), columnsFrom(0, 2), columnsFrom(0, 8), columnsFrom(0, 20)} {
			for _, f := range []impl.Field{{}, columnsFrom(0, 1), columnsFrom(1, 1), columnsFrom(1, 2), columnsFrom(8, 12), columnsFrom(0, 20)} {
				for count := range 6 {
					s := setup(group, slices.Repeat([]impl.Field{f}, count)...)
					list = append(list, tabulations(s, deck)...)
					list = append(list, tabulations(detailed(s), deck)...)
				}
			}
		}
	}
	for _, sums := range [][]int64{nil, {}, {0}, {3, -4}, {math.MinInt64, math.MaxInt64, -1}, edges()} {
		list = append(list, trial{"SumLine", impl.SumLine, []any{sums}})
	}
	return list
}

// TestPurityAndTotality checks P1 for all trials: each call returns, returns the same again, changes no argument, and returns memory of its own.
func TestPurityAndTotality(t *testing.T) {
	for _, trials := range []func() []trial{trialsOfBasics, trialsOfCards, trialsOfCodes, trialsOfLayouts, trialsOfKeypunch, trialsOfDamages, trialsOfSorter, trialsOfPlans, trialsOfCollator, trialsOfReproducer, trialsOfCounters, trialsOfBoards, trialsOfTabulator} {
		t.Run("", func(t *testing.T) {
			t.Parallel()
			for _, x := range trials() {
				checkTrial(t, x)
			}
		})
	}
}

func checkTrial(t *testing.T, x trial) {
	t.Helper()
	// The memory behind each argument's elements must neither be changed nor change a result.
	var arguments, before []any
	for _, a := range x.arguments {
		b := roomy(reflect.ValueOf(a)).Interface()
		arguments, before = append(arguments, b), append(before, memory(b))
	}
	var plain, one, two []any
	broken := panics(func() {
		plain, one, two = call(x.function, x.arguments...), call(x.function, arguments...), call(x.function, arguments...)
	})
	if broken != nil {
		t.Fatalf("%s(%v): panic: %v", x.name, x.arguments, broken)
	}
	if !reflect.DeepEqual(plain, one) || !reflect.DeepEqual(one, two) {
		t.Errorf("%s(%v): got %v, %v and %v", x.name, x.arguments, plain, one, two)
	}
	if !separate(one) {
		t.Errorf("%s(%v): two slices of the results share memory", x.name, x.arguments)
	}
	spoil(one)
	if !reflect.DeepEqual(plain, two) {
		t.Errorf("%s(%v): two results share memory", x.name, x.arguments)
	}
	spoil(two)
	for k, a := range arguments {
		if !reflect.DeepEqual(memory(a), before[k]) {
			t.Errorf("%s(%v): an argument is changed, or a result shares its memory", x.name, x.arguments)
		}
	}
	if noValue(plain) && !zeroButCode(plain) {
		t.Errorf("%s(%v): got %v, with values beside an error", x.name, x.arguments, plain)
	}
}

// noValue reports whether the last one of several results tells that there is no value.
func noValue(results []any) bool {
	last := results[len(results)-1]
	return len(results) > 1 && last != any(int64(impl.OK)) && last != any(true)
}

// TestEmptyAndNilSlices checks P1: no slice and an empty one are equal arguments.
func TestEmptyAndNilSlices(t *testing.T) {
	none, empty := impl.Card{}, impl.Card{Holes: []int64{}}
	for _, x := range []trial{
		{"ValidCard", impl.ValidCard, nil},
		{"CountHoles", impl.CountHoles, nil},
		{"CardPicture", impl.CardPicture, nil},
		{"PunchHole", impl.PunchHole, []any{int64(0), int64(0)}},
		{"HasHole", impl.HasHole, []any{int64(0), int64(0)}},
		{"PartOf", impl.PartOf, []any{impl.Field{From: 0, To: 1}}},
		{"Overlay", impl.Overlay, []any{card(9)}},
		{"SameCard", impl.SameCard, []any{impl.Card{}}},
		{"ReadText", impl.ReadText, nil},
		{"IllegalColumns", impl.IllegalColumns, nil},
		{"PunchNumber", impl.PunchNumber, []any{impl.Field{From: 0, To: 1}, int64(1)}},
		{"NumberIn", impl.NumberIn, []any{impl.Field{From: 0, To: 1}}},
		{"IsBlankField", impl.IsBlankField, []any{impl.Field{From: 0, To: 1}}},
		{"CompareFields", impl.CompareFields, []any{card(9), impl.Field{From: 0, To: 1}}},
	} {
		one, two := call(x.function, append([]any{none}, x.arguments...)...), call(x.function, append([]any{empty}, x.arguments...)...)
		if !reflect.DeepEqual(one, two) {
			t.Errorf("%s: got %v and %v", x.name, one, two)
		}
	}
	same(t, "decks", "true true", impl.ValidDeck(nil), impl.ValidDeck([]impl.Card{}))
}

// TestEmptyAndNilSlicesOfLayouts checks the same for layouts, values and decks.
func TestEmptyAndNilSlicesOfLayouts(t *testing.T) {
	one, two := impl.Layout{Width: 3}, impl.Layout{Width: 3, Items: []impl.Item{}}
	for _, x := range []trial{
		{"ValidLayout", impl.ValidLayout, nil},
		{"SameLayout", impl.SameLayout, []any{one}},
		{"SameLayout", impl.SameLayout, []any{two}},
		{"ItemNamed", impl.ItemNamed, []any{"a"}},
		{"AddItem", impl.AddItem, []any{item("a", impl.ItemText, 0, 1)}},
		{"FreeColumns", impl.FreeColumns, nil},
		{"RecordOf", impl.RecordOf, []any{card(1, 2, 3)}},
		{"CardFor", impl.CardFor, []any{[]string(nil)}},
		{"CardFor", impl.CardFor, []any{[]string{}}},
		{"ChangeItem", impl.ChangeItem, []any{card(1, 2, 3), "a", "1"}},
		{"ItemTotal", impl.ItemTotal, []any{[]impl.Card(nil), "a"}},
		{"CountValue", impl.CountValue, []any{[]impl.Card(nil), "a", "1"}},
		{"LayoutText", impl.LayoutText, nil},
	} {
		a, b := call(x.function, append([]any{one}, x.arguments...)...), call(x.function, append([]any{two}, x.arguments...)...)
		same(t, x.name+" of layouts without items", fmt.Sprint(b...), fmt.Sprint(a...))
	}
	same(t, "SameLayout of no items and no items", "true true", impl.SameLayout(one, two), impl.SameLayout(two, one))
	for _, deck := range [][]impl.Card{nil, {}} {
		sum, one := impl.ItemTotal(shop(), deck, "qty")
		count, two := impl.CountValue(shop(), deck, "qty", "0")
		same(t, "no cards", "0 0 0 0", sum, one, count, two)
	}
}

// TestEmptyAndNilSlicesOfKeypunch checks the same for cards, decks and keys.
func TestEmptyAndNilSlicesOfKeypunch(t *testing.T) {
	for _, x := range []trial{
		{"PunchByProgram", impl.PunchByProgram, []any{"m", impl.Card{}, "A"}},
		{"KeysFor", impl.KeysFor, []any{"m", impl.Card{}, card(9)}},
		{"KeysFor", impl.KeysFor, []any{"m", card(9), impl.Card{}}},
		{"PunchAll", impl.PunchAll, []any{"m", card(9), []string(nil)}},
		{"PunchAll", impl.PunchAll, []any{"m", impl.Card{}, []string(nil)}},
		{"VerifyCard", impl.VerifyCard, []any{"m", impl.Card{}, card(9), "A"}},
		{"VerifyCard", impl.VerifyCard, []any{"m", card(9), impl.Card{}, "A"}},
		{"VerifyAll", impl.VerifyAll, []any{"m", card(9), []impl.Card(nil), []string(nil)}},
		{"VerifyAll", impl.VerifyAll, []any{"m", impl.Card{}, []impl.Card(nil), []string(nil)}},
		{"VerifyAll", impl.VerifyAll, []any{"m", card(9), []impl.Card(nil), []string{"A"}}},
		{"CorrectColumn", impl.CorrectColumn, []any{impl.Card{}, int64(0), byte('A')}},
	} {
		checkEmptied(t, x)
	}
}

// TestEmptyAndNilSlicesOfDamages checks the same for cards and decks.
func TestEmptyAndNilSlicesOfDamages(t *testing.T) {
	for _, x := range []trial{
		{"DistanceOf", impl.DistanceOf, []any{impl.Card{}, card(9)}},
		{"DistanceOf", impl.DistanceOf, []any{impl.Card{}, impl.Card{}}},
		{"LaceColumn", impl.LaceColumn, []any{impl.Card{}, int64(0)}},
		{"LacedColumns", impl.LacedColumns, []any{impl.Card{}}},
		{"ShiftCard", impl.ShiftCard, []any{impl.Card{}, int64(0)}},
		{"ShiftOf", impl.ShiftOf, []any{card(9), impl.Card{}}},
		{"ShiftOf", impl.ShiftOf, []any{impl.Card{}, impl.Card{}}},
		{"AddedHoles", impl.AddedHoles, []any{impl.Card{}, card(9)}},
		{"LostHoles", impl.LostHoles, []any{card(9), impl.Card{}}},
		{"RepairCard", impl.RepairCard, []any{impl.Card{}}},
		{"NearestCard", impl.NearestCard, []any{[]impl.Card(nil), card(9)}},
		{"NearestCard", impl.NearestCard, []any{[]impl.Card(nil), impl.Card{}}},
		{"NearestCard", impl.NearestCard, []any{[]impl.Card{card(9)}, impl.Card{}}},
		{"NearestCard", impl.NearestCard, []any{[]impl.Card{{}}, card(9)}},
		{"TornColumns", impl.TornColumns, []any{impl.Card{}, impl.Field{From: 0, To: 1}}},
	} {
		checkEmptied(t, x)
	}
}

// TestEmptyAndNilSlicesOfSorter checks the same for cards, decks, passes and pockets.
func TestEmptyAndNilSlicesOfSorter(t *testing.T) {
	none, digit, whole := []impl.Card(nil), impl.Pass{Column: 0, Mode: impl.ModeDigits}, impl.Field{From: 0, To: 1}
	list := []trial{
		{"PocketOf", impl.PocketOf, []any{impl.Card{}, digit}},
		{"SortPass", impl.SortPass, []any{none, digit}},
		{"SortPass", impl.SortPass, []any{[]impl.Card{{}}, digit}},
		{"GatherCards", impl.GatherCards, []any{[][]impl.Card(nil), int64(impl.ModeDigits)}},
		{"GatherCards", impl.GatherCards, []any{make([][]impl.Card, 12), int64(impl.ModeDigits)}},
		{"GatherCards", impl.GatherCards, []any{make([][]impl.Card, 13), int64(impl.ModeZones)}},
		{"GatherCards", impl.GatherCards, []any{inPockets(12, card(9)), int64(impl.ModeZones)}},
		{"GatherCards", impl.GatherCards, []any{make([][]impl.Card, 13), int64(3)}},
		{"RunPass", impl.RunPass, []any{none, digit}},
		{"RunPass", impl.RunPass, []any{none, impl.Pass{}}},
		{"RunPasses", impl.RunPasses, []any{none, []impl.Pass(nil)}},
		{"RunPasses", impl.RunPasses, []any{[]impl.Card{card(9)}, []impl.Pass(nil)}},
		{"RunPasses", impl.RunPasses, []any{[]impl.Card{{}}, []impl.Pass(nil)}},
		{"PassText", impl.PassText, []any{[]impl.Pass(nil)}},
	}
	for _, f := range sortings() {
		list = append(list, trial{"sorting", f, []any{none, whole}}, trial{"sorting", f, []any{none, impl.Field{}}}, trial{"sorting", f, []any{[]impl.Card{{}}, whole}})
	}
	for _, x := range list {
		checkEmptied(t, x)
	}
}

// TestEmptyAndNilSlicesOfPlans checks the same for cards, decks and passes.
func TestEmptyAndNilSlicesOfPlans(t *testing.T) {
	none, digit, first, wide := []impl.Card(nil), impl.Pass{Column: 0, Mode: impl.ModeDigits}, impl.Field{From: 0, To: 1}, impl.Field{From: 0, To: 5}
	list := []trial{
		{"AlwaysSorts", impl.AlwaysSorts, []any{first, []impl.Pass(nil)}},
		{"AlwaysSorts", impl.AlwaysSorts, []any{impl.Field{}, []impl.Pass(nil)}},
		{"HandledCards", impl.HandledCards, []any{int64(3), []impl.Pass(nil)}},
		{"HandledCards", impl.HandledCards, []any{int64(-1), []impl.Pass(nil)}},
	}
	for _, deck := range [][]impl.Card{none, {{}}, {card(9)}} {
		list = append(list, trial{"IsIdlePass", impl.IsIdlePass, []any{deck, digit}}, trial{"IsIdlePass", impl.IsIdlePass, []any{deck, impl.Pass{}}})
		for _, f := range []impl.Field{first, wide, {}} {
			list = append(list, trial{"ShortPlan", impl.ShortPlan, []any{deck, f}}, trial{"FewestPasses", impl.FewestPasses, []any{deck, f}})
			for _, l := range [][]impl.Pass{nil, {digit}, {{}}} {
				list = append(list, trial{"IsPlanFor", impl.IsPlanFor, []any{deck, f, l}})
			}
		}
	}
	for _, x := range list {
		checkEmptied(t, x)
	}
}

// TestEmptyAndNilSlicesOfCollator checks the same for cards and decks.
func TestEmptyAndNilSlicesOfCollator(t *testing.T) {
	var list []trial
	decks := [][]impl.Card{nil, {{}}, {card(9)}, deckOf("A1", "B1")}
	for _, f := range []impl.Field{{From: 0, To: 1}, {From: 1, To: 2}, {}} {
		for _, deck := range decks {
			for _, c := range []impl.Card{{}, card(9), card(9, 9)} {
				list = append(list, trial{"InsertCard", impl.InsertCard, []any{deck, c, f}})
			}
			list = append(list, withDeck(deck, f)...)
			for _, other := range decks {
				list = append(list, trial{"MergeDecks", impl.MergeDecks, []any{deck, other, f}}, trial{"MatchDecks", impl.MatchDecks, []any{deck, other, f}})
			}
		}
	}
	for _, x := range list {
		checkEmptied(t, x)
	}
}

// TestEmptyAndNilSlicesOfReproducer checks the same for cards, decks and copies.
func TestEmptyAndNilSlicesOfReproducer(t *testing.T) {
	var list []trial
	decks := [][]impl.Card{nil, {{}}, {card(9)}, deckOf("A-", "B1")}
	for _, l := range [][]impl.Copy{nil, wired("0>0"), wired("1>0 0>1"), wired("0>20")} {
		list = append(list, trial{"ValidCopies", impl.ValidCopies, []any{l, int64(1), int64(1)}}, trial{"ValidCopies", impl.ValidCopies, []any{l, int64(0), int64(1)}})
		list = append(list, trial{"BackCopies", impl.BackCopies, []any{l}}, trial{"CopiesText", impl.CopiesText, []any{l}}, trial{"JoinCopies", impl.JoinCopies, []any{l, []impl.Copy(nil)}}, trial{"JoinCopies", impl.JoinCopies, []any{[]impl.Copy(nil), l}})
		for _, c := range []impl.Card{{}, card(9), card(9, 9)} {
			list = append(list, trial{"ReproduceCard", impl.ReproduceCard, []any{c, l, int64(1)}}, trial{"CompareCards", impl.CompareCards, []any{c, card(9), l}}, trial{"CompareCards", impl.CompareCards, []any{card(9), c, l}})
			for _, deck := range decks {
				list = append(list, trial{"GangPunch", impl.GangPunch, []any{c, deck, l}})
			}
		}
		for _, deck := range decks {
			list = append(list, trial{"ReproduceDeck", impl.ReproduceDeck, []any{deck, l, int64(1)}}, trial{"InterspersedGang", impl.InterspersedGang, []any{deck, int64(1), l}})
			for _, other := range decks {
				list = append(list, trial{"CompareDecks", impl.CompareDecks, []any{deck, other, l}})
			}
		}
	}
	for _, deck := range decks {
		list = append(list, trial{"SerialPunch", impl.SerialPunch, []any{deck, impl.Field{From: 0, To: 1}, int64(1)}})
	}
	for _, x := range list {
		checkEmptied(t, x)
	}
}

// TestEmptyAndNilSlicesOfCounters checks the same for counters and numbers.
func TestEmptyAndNilSlicesOfCounters(t *testing.T) {
	list := []trial{{"ValidCounter", impl.ValidCounter, []any{impl.Counter{}}}, {"NumberShown", impl.NumberShown, []any{impl.Counter{}}}, {"ComplementOf", impl.ComplementOf, []any{impl.Counter{}}}, {"CounterText", impl.CounterText, []any{impl.Counter{}}}}
	for _, n := range []int64{-1, 0, 1, 2, 3, 12, 13} {
		list = append(list, trial{"AddToCounter", impl.AddToCounter, []any{impl.Counter{}, n}}, trial{"TakeFromCounter", impl.TakeFromCounter, []any{impl.Counter{}, n}}, trial{"CarriesOf", impl.CarriesOf, []any{impl.Counter{}, n}}, trial{"SplitCounter", impl.SplitCounter, []any{impl.Counter{}, n}}, trial{"BalanceAfter", impl.BalanceAfter, []any{n, []int64(nil)}})
	}
	for _, c := range []impl.Counter{{}, counter(1), counter(10), showing("097")} {
		for _, other := range []impl.Counter{{}, counter(1)} {
			list = append(list, trial{"SameCounter", impl.SameCounter, []any{c, other}}, trial{"SameCounter", impl.SameCounter, []any{other, c}}, trial{"JoinCounters", impl.JoinCounters, []any{c, other}}, trial{"JoinCounters", impl.JoinCounters, []any{other, c}})
		}
	}
	for _, x := range list {
		checkEmptied(t, x)
	}
	same(t, "no digits and none", "true true", impl.SameCounter(impl.Counter{}, impl.Counter{Digits: []int64{}}), impl.SameCounter(impl.Counter{Digits: []int64{}}, impl.Counter{}))
}

// TestEmptyAndNilSlicesOfBoards checks the same for wires and cards.
func TestEmptyAndNilSlicesOfBoards(t *testing.T) {
	var list []trial
	boards := []impl.Board{{}, {Exits: 1}, plugged(1, 1, 0, ""), plugged(2, 3, 1, ""), plugged(0, 1, 1, ""), plugged(2, 1, 0, "0-2 1-2"), plugged(20, 10, 0, ""), plugged(20, 10, 1, "")}
	for _, b := range boards {
		list = append(list, trial{"ValidBoard", impl.ValidBoard, []any{b}}, trial{"NetsOf", impl.NetsOf, []any{b}}, trial{"SneakPairs", impl.SneakPairs, []any{b}}, trial{"OpenEntries", impl.OpenEntries, []any{b}}, trial{"SpareWires", impl.SpareWires, []any{b}}, trial{"FewestCuts", impl.FewestCuts, []any{b}})
		for _, n := range []int64{-1, 0, 1, 2, 20} {
			list = append(list, trial{"RemoveWire", impl.RemoveWire, []any{b, n}}, trial{"JoinedHubs", impl.JoinedHubs, []any{b, n}}, trial{"SourcesOf", impl.SourcesOf, []any{b, n}}, trial{"AddWire", impl.AddWire, []any{b, impl.Wire{A: 0, B: n}}})
		}
		for _, c := range []impl.Card{{}, card(9), card(9, 4)} {
			list = append(list, trial{"RouteCard", impl.RouteCard, []any{b, c}})
		}
		for _, other := range boards {
			list = append(list, trial{"SameBoard", impl.SameBoard, []any{b, other}})
		}
	}
	for _, x := range list {
		checkEmptied(t, x)
	}
}

// TestEmptyAndNilSlicesOfTabulator checks the same for sums, cards and decks.
func TestEmptyAndNilSlicesOfTabulator(t *testing.T) {
	list := []trial{{"SumLine", impl.SumLine, []any{[]int64(nil)}}}
	for _, s := range []impl.Setup{{}, setup(columnsFrom(0, 1)), detailed(setup(columnsFrom(0, 1))), setup(columnsFrom(0, 1), columnsFrom(1, 1)), setup(columnsFrom(19, 1)), setup(columnsFrom(20, 1))} {
		for _, width := range []int64{0, 1, 20} {
			list = append(list, trial{"ValidSetup", impl.ValidSetup, []any{s, width}})
		}
		for _, deck := range [][]impl.Card{nil, {{}}, {card(9)}, listed("A1,B1"), listed("A,B")} {
			list = append(list, tabulations(s, deck)...)
		}
	}
	for _, x := range list {
		checkEmptied(t, x)
	}
}

// checkEmptied checks that a call returns the same with empty slices instead of nil ones.
func checkEmptied(t *testing.T, x trial) {
	t.Helper()
	var others []any
	for _, a := range x.arguments {
		others = append(others, emptied(a))
	}
	one, two := call(x.function, x.arguments...), call(x.function, others...)
	same(t, fmt.Sprintf("%s(%v) with empty slices", x.name, x.arguments), fmt.Sprint(one...), fmt.Sprint(two...))
}

// emptied returns an argument with an empty slice instead of a nil one.
func emptied(x any) any {
	switch v := x.(type) {
	case impl.Card:
		return impl.Card{Holes: append([]int64{}, v.Holes...)}
	case []impl.Card:
		deck := []impl.Card{}
		for _, c := range v {
			deck = append(deck, emptied(c).(impl.Card))
		}
		return deck
	case [][]impl.Card:
		lists := [][]impl.Card{}
		for _, deck := range v {
			lists = append(lists, emptied(deck).([]impl.Card))
		}
		return lists
	case []impl.Pass:
		return append([]impl.Pass{}, v...)
	case []impl.Copy:
		return append([]impl.Copy{}, v...)
	case impl.Counter:
		return impl.Counter{Digits: append([]int64{}, v.Digits...)}
	case impl.Board:
		v.Wires = append([]impl.Wire{}, v.Wires...)
		return v
	case impl.Setup:
		v.Sums = append([]impl.Field{}, v.Sums...)
		return v
	case []int64:
		return append([]int64{}, v...)
	case []string:
		return append([]string{}, v...)
	}
	return x
}
