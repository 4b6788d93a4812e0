package tests

import (
	"fmt"
	"math"
	"math/rand/v2"
	"regexp"
	"slices"
	"strings"
	"testing"

	"loop.example/g01012/impl"
)

// wired returns the copies with a text like that of CopiesText. They need not be plain.
func wired(text string) []impl.Copy {
	var list []impl.Copy
	for _, word := range strings.Fields(text) {
		var x impl.Copy
		if _, err := fmt.Sscanf(word, "%d>%d", &x.From, &x.To); err != nil {
			panic(err)
		}
		list = append(list, x)
	}
	return list
}

// written returns the text of copies, which need not be plain.
func written(list []impl.Copy) string {
	var words []string
	for _, x := range list {
		words = append(words, fmt.Sprintf("%d>%d", x.From, x.To))
	}
	return strings.Join(words, " ")
}

// fit reports whether copies are valid from cards with so many columns to cards with so many columns.
func fit(list []impl.Copy, from, to int64) bool {
	for k, x := range list {
		if x.From < 0 || x.From >= from || x.To < 0 || x.To >= to || k > 0 && x.To <= list[k-1].To {
			return false
		}
	}
	return 0 < from && from <= 20 && 0 < to && to <= 20
}

// holesFor returns the holes that copies from a card punch into a column.
func holesFor(column int64, read impl.Card, list []impl.Copy) int64 {
	for _, x := range list {
		if x.To == column {
			return read.Holes[x.From]
		}
	}
	return 0
}

// overpunched returns a card with the copies from the one that is read.
func overpunched(read, c impl.Card, list []impl.Copy) impl.Card {
	var holes []int64
	for column, mask := range c.Holes {
		holes = append(holes, mask|holesFor(int64(column), read, list))
	}
	return card(holes...)
}

// unlike returns the copies for which two cards have different holes.
func unlike(a, b impl.Card, list []impl.Copy) []int64 {
	var differ []int64
	for k, x := range list {
		if a.Holes[x.From] != b.Holes[x.To] {
			differ = append(differ, int64(k))
		}
	}
	return differ
}

// copyError returns the first error of copies from the cards of a list to those of another one.
func copyError(from, to []impl.Card, list []impl.Copy) int64 {
	switch {
	case !impl.ValidDeck(from) || !impl.ValidDeck(to):
		return impl.ErrInvalid
	case !fit(list, columnsOf(from), columnsOf(to)):
		return impl.ErrRange
	}
	return impl.OK
}

// checkReproduce compares what ReproduceDeck returns, and ReproduceCard for each card, with the columns one by one, or with the error that comes first. It checks the first part of P10.
func checkReproduce(t *testing.T, deck []impl.Card, list []impl.Copy, width int64) int64 {
	t.Helper()
	code := int64(impl.OK)
	switch {
	case !impl.ValidDeck(deck):
		code = impl.ErrInvalid
	case !fit(list, columnsOf(deck), width):
		code = impl.ErrRange
	}
	want := []impl.Card{}
	if code == impl.OK {
		for _, c := range deck {
			out := overpunched(c, wide(int(width), 0), list)
			want = append(want, out)
			expect(t, fmt.Sprintf("ReproduceCard(%v, %v, %d)", c, list, width), code, out, call(impl.ReproduceCard, c, list, width))
			expect(t, fmt.Sprintf("CompareCards(%v, %v, %v)", c, out, list), code, []int64{}, call(impl.CompareCards, c, out, list))
		}
		expect(t, fmt.Sprintf("CompareDecks(%v, %v, %v)", deck, want, list), code, -1, call(impl.CompareDecks, deck, want, list))
	}
	expect(t, fmt.Sprintf("ReproduceDeck(%v, %v, %d)", deck, list, width), code, want, call(impl.ReproduceDeck, deck, list, width))
	if len(deck) == 1 {
		expect(t, fmt.Sprintf("ReproduceCard(%v, %v, %d)", deck[0], list, width), code, append(want, impl.Card{})[0], call(impl.ReproduceCard, deck[0], list, width))
	}
	return code
}

// checkGang compares what GangPunch returns with the columns one by one, or with the error that comes first.
func checkGang(t *testing.T, master impl.Card, deck []impl.Card, list []impl.Copy) int64 {
	t.Helper()
	code := copyError([]impl.Card{master}, deck, list)
	want := []impl.Card{}
	if code == impl.OK {
		for _, c := range deck {
			want = append(want, overpunched(master, c, list))
		}
	}
	expect(t, fmt.Sprintf("GangPunch(%v, %v, %v)", master, deck, list), code, want, call(impl.GangPunch, master, deck, list))
	return code
}

// checkInterspersed compares what InterspersedGang returns with a search for the master of each card, or with the error that comes first.
func checkInterspersed(t *testing.T, deck []impl.Card, column int64, list []impl.Copy) int64 {
	t.Helper()
	code := copyError(deck, deck, list)
	if code == impl.OK && (column < 0 || column >= columnsOf(deck)) {
		code = impl.ErrRange
	}
	want := []impl.Card{}
	for k := 0; code == impl.OK && k < len(deck); k++ {
		at := k
		for at >= 0 && !hasRow(deck[at].Holes[column], 11) {
			at--
		}
		switch {
		case at < 0:
			code = impl.ErrState
		case at == k:
			want = append(want, deck[k])
		default:
			want = append(want, overpunched(deck[at], deck[k], list))
		}
	}
	expect(t, fmt.Sprintf("InterspersedGang(%v, %d, %v)", deck, column, list), code, want, call(impl.InterspersedGang, deck, column, list))
	return code
}

// checkCompare compares what CompareDecks returns, and CompareCards for the cards at the same places, with what a loop finds, or with the error that comes first.
func checkCompare(t *testing.T, a, b []impl.Card, list []impl.Copy) int64 {
	t.Helper()
	code := copyError(a, b, list)
	want := -1
	if len(a) != len(b) {
		want = min(len(a), len(b))
	}
	for k := min(len(a), len(b)) - 1; code == impl.OK && k >= 0; k-- {
		differ := unlike(a[k], b[k], list)
		expect(t, fmt.Sprintf("CompareCards(%v, %v, %v)", a[k], b[k], list), code, differ, call(impl.CompareCards, a[k], b[k], list))
		if len(differ) > 0 {
			want = k
		}
	}
	expect(t, fmt.Sprintf("CompareDecks(%v, %v, %v)", a, b, list), code, want, call(impl.CompareDecks, a, b, list))
	if len(a) == 1 && len(b) == 1 && code != impl.OK {
		fails(t, code, impl.CompareCards, a[0], b[0], list)
	}
	return code
}

// checkBack compares what BackCopies returns with a search for the copy from each column, or with the error that comes first.
func checkBack(t *testing.T, list []impl.Copy) int64 {
	t.Helper()
	code := int64(impl.OK)
	if !fit(list, 20, 20) {
		code = impl.ErrRange
	}
	var want []impl.Copy
	for column := int64(0); code == impl.OK && column < 20; column++ {
		found := 0
		for _, x := range list {
			if x.From == column {
				want, found = append(want, impl.Copy{From: x.To, To: column}), found+1
			}
		}
		if found > 1 {
			code = impl.ErrClash
		}
	}
	expect(t, fmt.Sprintf("BackCopies(%v)", list), code, want, call(impl.BackCopies, list))
	if code == impl.OK {
		// Twice back is forth.
		expect(t, fmt.Sprintf("BackCopies(%v)", want), code, append([]impl.Copy{}, list...), call(impl.BackCopies, want))
	}
	return code
}

// checkJoin compares what JoinCopies returns with a search for the copy into each column, or with the error that comes first.
func checkJoin(t *testing.T, a, b []impl.Copy) int64 {
	t.Helper()
	code := int64(impl.OK)
	if !fit(a, 20, 20) || !fit(b, 20, 20) {
		code = impl.ErrRange
	}
	var want []impl.Copy
	for _, second := range b {
		at := slices.IndexFunc(a, func(first impl.Copy) bool { return first.To == second.From })
		if at >= 0 {
			want = append(want, impl.Copy{From: a[at].From, To: second.To})
		}
	}
	expect(t, fmt.Sprintf("JoinCopies(%v, %v)", a, b), code, want, call(impl.JoinCopies, a, b))
	return code
}

// checkSerial compares what SerialPunch returns with the digits one by one, or with the error that comes first.
func checkSerial(t *testing.T, deck []impl.Card, f impl.Field, first int64) int64 {
	t.Helper()
	code := int64(impl.OK)
	switch {
	case !impl.ValidDeck(deck):
		code = impl.ErrInvalid
	case f.From < 0 || f.From >= f.To || f.To > columnsOf(deck) || f.To > f.From+12 || first < 0 || first > 999999999999:
		code = impl.ErrRange
	}
	want := []impl.Card{}
	for k := 0; code == impl.OK && k < len(deck); k++ {
		c, n := card(slices.Clone(deck[k].Holes)...), first+int64(k)
		holes := 0
		for column := f.To - 1; column >= f.From; column-- {
			if c.Holes[column] != 0 {
				holes++
			}
			c.Holes[column] = holesIn(n % 10)
			n /= 10
		}
		switch {
		case n > 0:
			code = impl.ErrFull
		case holes > 0:
			code = impl.ErrClash
		}
		want = append(want, c)
	}
	expect(t, fmt.Sprintf("SerialPunch(%v, %v, %d)", deck, f, first), code, want, call(impl.SerialPunch, deck, f, first))
	return code
}

// checkText compares what CopiesText returns with the words one by one, and checks that the text of plain copies is read back.
func checkText(t *testing.T, list []impl.Copy) {
	t.Helper()
	want := ""
	if fit(list, 20, 20) {
		want = written(list)
	}
	same(t, fmt.Sprintf("CopiesText(%v)", list), want, impl.CopiesText(list))
	if fit(list, 20, 20) {
		got, ok := impl.ReadCopies(want)
		same(t, fmt.Sprintf("ReadCopies(%q)", want), fmt.Sprint(list, true), got, ok)
	}
}

// oneCopy is the text of one copy from and to any column.
var oneCopy = regexp.MustCompile(`^(0|[1-9][0-9]?)>(0|[1-9][0-9]?)$`)

// checkReadCopies compares what ReadCopies returns for a text with what its words are by a regular expression.
func checkReadCopies(t *testing.T, s string) bool {
	t.Helper()
	ok := true
	if s != "" {
		for word := range strings.SplitSeq(s, " ") {
			ok = ok && oneCopy.MatchString(word)
		}
	}
	var want []impl.Copy
	if ok {
		want = wired(s)
		ok = fit(want, 20, 20)
	}
	if !ok {
		want = nil
	}
	got, is := impl.ReadCopies(s)
	same(t, fmt.Sprintf("ReadCopies(%q)", s), fmt.Sprint(want, ok), got, is)
	return ok
}

// TestReproducerOfTheDocument checks the example of the chapter.
func TestReproducerOfTheDocument(t *testing.T) {
	list, ok := impl.ReadCopies("3>0 2>1")
	c, code := impl.ReproduceCard(cardOf("ABCD"), list, 2)
	same(t, "the example", "[{3 0} {2 1}] true DC 0 3>0 2>1", list, ok, textIn(c.Holes), code, impl.CopiesText(list))
}

func TestValidCopies(t *testing.T) {
	for _, x := range []struct {
		text     string
		from, to int64
		want     bool
	}{
		{"", 1, 1, true}, {"", 20, 20, true}, {"", 1, 20, true}, {"", 0, 1, false}, {"", 1, 0, false}, {"", -1, 1, false}, {"", 1, -1, false}, {"", 21, 1, false}, {"", 1, 21, false},
		{"0>0", 1, 1, true}, {"0>0", 0, 1, false}, {"0>0", 1, 0, false}, {"0>0", 21, 20, false}, {"0>0", 20, 21, false}, {"0>0", -1, 1, false}, {"0>0", 1, -1, false},
		{"3>0 2>1", 4, 2, true}, {"3>0 2>1", 3, 2, false}, {"3>0 2>1", 4, 1, false}, {"3>0 2>1", 20, 20, true}, {"3>0 2>1", 2, 4, false},
		{"19>19", 20, 20, true}, {"19>19", 19, 20, false}, {"19>19", 20, 19, false}, {"20>19", 20, 20, false}, {"19>20", 20, 20, false}, {"20>19", 21, 20, false}, {"19>20", 20, 21, false}, {"20>20", 21, 21, false},
		{"-1>0", 20, 20, false}, {"0>-1", 20, 20, false}, {"-1>-1", 20, 20, false}, {"0>0 -1>1", 20, 20, false}, {"0>-1 0>0", 20, 20, false},
		// The targets are equal, fall, or rise; the columns from which copies come may be in any order.
		{"0>0 1>0", 20, 20, false}, {"0>0 0>0", 20, 20, false}, {"0>1 0>0", 20, 20, false}, {"0>0 0>1", 1, 2, true}, {"5>0 5>1 5>2", 6, 3, true}, {"0>0 1>2 2>2", 20, 20, false}, {"0>0 1>2 2>1", 20, 20, false}, {"2>0 0>1 1>5", 3, 6, true}, {"2>0 0>1 1>5", 3, 5, false},
	} {
		same(t, fmt.Sprintf("ValidCopies of %s from %d to %d", x.text, x.from, x.to), fmt.Sprint(x.want), impl.ValidCopies(wired(x.text), x.from, x.to))
	}
	same(t, "no copies", "true", impl.ValidCopies([]impl.Copy{}, 20, 1))
}

// someNumbersOfColumns are numbers of columns that cards may have, and others.
func someNumbersOfColumns() []int64 {
	return []int64{math.MinInt64, -1, 0, 1, 2, 3, 19, 20, 21, 1 << 32, math.MaxInt64}
}

// edgeCopies are copies from and to the first columns and the last ones, and to columns that there are not.
func edgeCopies() []impl.Copy {
	var list []impl.Copy
	for _, from := range []int64{math.MinInt64, -1, 0, 1, 2, 19, 20, math.MaxInt64} {
		for _, to := range []int64{math.MinInt64, -1, 0, 1, 2, 19, 20, math.MaxInt64} {
			list = append(list, impl.Copy{From: from, To: to})
		}
	}
	return list
}

// TestPlainAndValidCopies compares, for all lists of two edge copies, which are valid, and what is done with those that are plain.
func TestPlainAndValidCopies(t *testing.T) {
	listsOf(edgeCopies(), 2, nil, func(list []impl.Copy) {
		for _, from := range someNumbersOfColumns() {
			for _, to := range someNumbersOfColumns() {
				if got := impl.ValidCopies(list, from, to); got != fit(list, from, to) {
					t.Errorf("ValidCopies(%v, %d, %d): got %v", list, from, to, got)
				}
			}
		}
		checkBack(t, list)
		checkText(t, list)
		for _, other := range [][]impl.Copy{nil, {}, wired("0>0"), wired("1>0 0>1"), wired("19>19"), wired("0>20"), wired("0>0 0>0")} {
			checkJoin(t, list, other)
			checkJoin(t, other, list)
		}
	})
}

// inColumns are all copies from the first columns to the first columns.
func inColumns(from, to int64) []impl.Copy {
	var list []impl.Copy
	for a := range from {
		for b := range to {
			list = append(list, impl.Copy{From: a, To: b})
		}
	}
	return list
}

// manyCopies are lists of copies from each column to each one, the longest that there are; they are plain.
func manyCopies() [][]impl.Copy {
	var straight, turned, first, last, later []impl.Copy
	for column := range int64(20) {
		straight = append(straight, impl.Copy{From: column, To: column})
		turned = append(turned, impl.Copy{From: 19 - column, To: column})
		first = append(first, impl.Copy{From: 0, To: column})
		last = append(last, impl.Copy{From: 19, To: column})
		later = append(later, impl.Copy{From: (column + 7) % 20, To: column})
	}
	return [][]impl.Copy{straight, turned, first, last, later, straight[19:], turned[:1], turned[10:]}
}

func TestManyCopies(t *testing.T) {
	lists := manyCopies()
	for _, a := range lists {
		same(t, fmt.Sprintf("ValidCopies(%v)", a), "true", impl.ValidCopies(a, 20, 20))
		checkText(t, a)
		checkBack(t, a)
		for _, b := range lists {
			same(t, fmt.Sprintf("JoinCopies(%v, %v)", a, b), "0", checkJoin(t, a, b))
		}
		for _, more := range []impl.Copy{{From: 0, To: 20}, {From: 19, To: 0}, {}} {
			longer := append(slices.Clone(a), more)
			same(t, fmt.Sprintf("ValidCopies(%v)", longer), "false", impl.ValidCopies(longer, 20, 20))
			checkText(t, longer)
			checkBack(t, longer)
			checkJoin(t, longer, a)
			checkJoin(t, a, longer)
		}
		checkReproduce(t, []impl.Card{worn(20), cardOf(allChars()[:20]), cardOf(allChars()[20:])}, a, 20)
	}
	endless := slices.Repeat([]impl.Copy{{From: 0, To: 0}}, 1000)
	same(t, "a thousand copies", "false ", impl.ValidCopies(endless, 20, 20), impl.CopiesText(endless))
	same(t, "ReproduceCard of the longest copies", "TSRQPONMLKJIHGFEDCBA 0", reproducedText("ABCDEFGHIJKLMNOPQRST", lists[1], 20))
}

// reproducedText returns the text and the code of a card that is reproduced.
func reproducedText(text string, list []impl.Copy, width int64) string {
	c, code := impl.ReproduceCard(cardOf(text), list, width)
	return fmt.Sprint(textIn(c.Holes), " ", code)
}

func TestReproduceCard(t *testing.T) {
	for _, x := range []struct {
		text, copies string
		width        int64
		want         string
	}{
		{"ABCD", "3>0 2>1", 2, "DC"}, {"ABCD", "3>0 2>1", 3, "DC "}, {"ABCD", "3>0 2>1", 20, "DC                  "},
		// No other holes than those of the copies, and what is copied is what the card had before.
		{"ABCD", "", 4, "    "}, {"ABCD", "", 1, " "}, {"ABCD", "1>1", 4, " B  "}, {"ABCD", "0>0", 4, "A   "}, {"ABCD", "0>3", 4, "   A"}, {"AB", "1>0 0>1", 2, "BA"}, {"ABC", "2>0 0>1 1>2", 3, "CAB"}, {"ABC", "0>1 1>2", 3, " AB"}, {"ABC", "1>0 2>1", 3, "BC "},
		// Several copies from one column.
		{"ABCD", "1>0 1>1 1>2", 3, "BBB"}, {"ABCD", "1>0 2>2 1>4", 5, "B C B"}, {"A", "0>0 0>1 0>2 0>3 0>4", 5, "AAAAA"},
		{" A-1", "0>0 1>1 2>2 3>3", 4, " A-1"}, {"A-1", "2>7", 8, "       1"}, {"A", "0>19", 20, "                   A"},
	} {
		same(t, fmt.Sprintf("ReproduceCard of %s with %s", x.text, x.copies), x.want+" 0", reproducedText(x.text, wired(x.copies), x.width))
		checkReproduce(t, listed(x.text), wired(x.copies), x.width)
	}
	// Holes that stand for no character are copied as well.
	c, code := impl.ReproduceCard(card(3, 4095, 0), wired("1>0 0>2 2>3"), 4)
	same(t, "illegal columns", "{[4095 0 3 0]} 0", c, code)
}

func TestReproduceDeck(t *testing.T) {
	for _, x := range []struct {
		texts, copies string
		width         int64
		want          string
	}{
		{"ABCD,1234", "3>0 2>1", 2, "DC,43"}, {"ABCD,1234", "", 2, "  ,  "}, {"A", "0>0", 1, "A"}, {"AB,CD,EF", "1>2", 3, "  B,  D,  F"}, {"A,A,A", "0>0 0>1", 2, "AA,AA,AA"},
	} {
		deck, code := impl.ReproduceDeck(listed(x.texts), wired(x.copies), x.width)
		same(t, fmt.Sprintf("ReproduceDeck of %s with %s", x.texts, x.copies), x.want+" 0", textsOf(deck), code)
		checkReproduce(t, listed(x.texts), wired(x.copies), x.width)
	}
	for _, deck := range goodDecks() {
		for _, text := range []string{"", "0>0", "0>19", "0>0 0>1", "2>0 0>2", "19>19", "19>0", "20>0", "0>20"} {
			for _, width := range someNumbersOfColumns() {
				checkReproduce(t, deck, wired(text), width)
			}
		}
	}
}

// TestReproducerOfNoCards checks that a deck without cards counts as one of cards with MaxColumns columns.
func TestReproducerOfNoCards(t *testing.T) {
	one, both := deckOf("A"), deckOf("AB", "CD")
	for _, none := range [][]impl.Card{nil, {}} {
		for _, x := range []struct {
			text                                   string
			reproduced, ganged, compared, from, to int64
		}{
			// The codes of reproducing no cards with one column, of punching none from a card with one column, and of comparing none with none, with a card with one column, and the other way round.
			{"", 0, 0, 0, 0, 0}, {"0>0", 0, 0, 0, 0, 0}, {"19>0", 0, 2, 0, 0, 2}, {"0>19", 2, 0, 0, 2, 0}, {"19>19", 2, 2, 0, 2, 2}, {"20>0", 2, 2, 2, 2, 2}, {"0>20", 2, 2, 2, 2, 2}, {"0>0 0>0", 2, 2, 2, 2, 2}, {"-1>0", 2, 2, 2, 2, 2},
		} {
			list := wired(x.text)
			_, reproduced := impl.ReproduceDeck(none, list, 1)
			_, ganged := impl.GangPunch(one[0], none, list)
			_, compared := impl.CompareDecks(none, none, list)
			_, from := impl.CompareDecks(none, one, list)
			_, to := impl.CompareDecks(one, none, list)
			same(t, "no cards with "+x.text, fmt.Sprint(x.reproduced, x.ganged, x.compared, x.from, x.to), reproduced, ganged, compared, from, to)
			for _, width := range someNumbersOfColumns() {
				checkReproduce(t, none, list, width)
				checkInterspersed(t, none, width, list)
			}
			for _, deck := range [][]impl.Card{none, one, both, {worn(20)}} {
				checkCompare(t, none, deck, list)
				checkCompare(t, deck, none, list)
				for _, master := range append(deck, worn(20), worn(19)) {
					checkGang(t, master, none, list)
				}
			}
		}
		same(t, "no cards and one", "0 0 0 0", append(call(impl.CompareDecks, none, one, wired("0>0")), call(impl.CompareDecks, one, none, wired("0>0"))...)...)
		same(t, "no cards and no cards", "-1 0", call(impl.CompareDecks, none, none, wired("19>19"))...)
		same(t, "columns of no cards", "[] 0 [] 0 [] 2 [] 2", slices.Concat(call(impl.InterspersedGang, none, int64(0), wired("19>19")), call(impl.InterspersedGang, none, int64(19), wired("")), call(impl.InterspersedGang, none, int64(20), wired("")), call(impl.InterspersedGang, none, int64(-1), wired("")))...)
		for _, f := range append(wrongFields(20), fieldsOf(20)...) {
			for _, first := range []int64{-1, 0, 999999999999, 1000000000000} {
				checkSerial(t, none, f, first)
			}
		}
		same(t, "fields of no cards", "[] 0 [] 0 [] 2 [] 2", slices.Concat(call(impl.SerialPunch, none, impl.Field{From: 8, To: 20}, int64(0)), call(impl.SerialPunch, none, impl.Field{From: 0, To: 1}, int64(999999999999)), call(impl.SerialPunch, none, impl.Field{From: 7, To: 20}, int64(0)), call(impl.SerialPunch, none, impl.Field{From: 19, To: 21}, int64(0)))...)
	}
}

func TestGangPunch(t *testing.T) {
	for _, x := range []struct{ master, texts, copies, want string }{
		{"ABCD", "  X,  Y", "3>0 2>1", "DCX,DCY"}, {"ABCD", "X,Y", "", "X,Y"}, {"A", "   ,   ", "0>2", "  A,  A"}, {"AB", " , ", "1>0", "B,B"},
		// The holes that a card has are kept, where the master has the same ones, other ones, or none.
		{"A", "A,1,&, ", "0>0", "A,A,A,A"}, {" ", "A,1,&, ", "0>0", "A,1,&, "}, {"&", "1,2,&, ", "0>0", "A,B,&,&"}, {"-", "1,J, ,9", "0>0", "J,J,-,R"}, {"0", "1,2,S", "0>0", "/,S,S"}, {"A", "J,2", "0>0", "?,?"},
		{"&-0", "111,222", "0>0 1>1 2>2", "AJ/,BKS"}, {"&-0", "111,222", "2>0 0>2", "/1A,S2B"}, {"&-0", "111", "1>0 1>1 1>2", "JJJ"}, {"&-0", "111", "1>1", "1J1"},
	} {
		deck, code := impl.GangPunch(cardOf(x.master), listed(x.texts), wired(x.copies))
		same(t, fmt.Sprintf("GangPunch of %s into %s with %s", x.master, x.texts, x.copies), x.want+" 0", textsOf(deck), code)
		checkGang(t, cardOf(x.master), listed(x.texts), wired(x.copies))
	}
	// The master may be a card of the deck, and what is copied is what it had before.
	deck := deckOf("A  ", "   ")
	got, code := impl.GangPunch(deck[0], deck, wired("0>1 1>2"))
	same(t, "a master of the deck", "AA , A  0", textsOf(got), code)
	same(t, "the deck itself", "A  ,   ", textsOf(deck))
	got, code = impl.GangPunch(deck[0], deck, wired("1>0 0>1"))
	same(t, "a master of the deck whose columns are changed over", "AA , A  0", textsOf(got), code)
	for _, deck := range goodDecks() {
		for _, master := range append(someCards(), cardOf("AB"), worn(4)) {
			for _, text := range []string{"", "0>0", "1>1", "0>0 0>1", "1>0 0>1", "19>19", "0>2 2>3", "19>0", "0>19"} {
				checkGang(t, master, deck, wired(text))
			}
		}
	}
}

func TestInterspersedGang(t *testing.T) {
	for _, x := range []struct {
		texts  string
		column int64
		copies string
		want   string
	}{
		{"A-, 1,B-, 2", 1, "0>0", "A-,A1,B-,B2"}, {"A-, 1, 2, 3", 1, "0>0", "A-,A1,A2,A3"}, {"-A,1 ,2 ", 0, "1>1", "-A,1A,2A"}, {"A-, 1", 1, "", "A-, 1"}, {"A-, 1", 1, "0>0 0>1", "A-,AA"},
		// A master behind a master, a master as the last card, and masters only.
		{"A-,B-, 1, 2", 1, "0>0", "A-,B-,B1,B2"}, {"A-,B-,C-, 1", 1, "0>0", "A-,B-,C-,C1"}, {"A-, 1,B-", 1, "0>0", "A-,A1,B-"}, {"A-,B-,C-", 1, "0>0", "A-,B-,C-"}, {"A-", 1, "0>0", "A-"}, {" -,B-,  ", 1, "0>0", " -,B-,B "},
		// The row 11 is also one of some letters; the rows 12 and 0 are none of a master.
		{"AJ, A, S,BR, 0, &", 1, "0>0", "AJ,AA,AS,BR,B0,B&"}, {"AK,  , N,  ,B ", 1, "0>0", "AK,A , N,  ,B "},
		// The masters stay as they are, where copies change columns over or copy them onto themselves, too.
		{"A -,   ,  1", 2, "0>1", "A -, A , A1"}, {"AB-,   ", 2, "1>0 0>1", "AB-,BA "}, {"AB-,   ,CD-,   ", 2, "0>0 1>1", "AB-,AB ,CD-,CD "}, {"AB-,   ,   ", 2, "0>1 1>2", "AB-, AB, AB"},
		// The other cards keep the holes that they have.
		{"&-,1 ,A ,  ", 1, "0>0", "&-,A ,A ,& "}, {" -,1 ,A ,  ", 1, "0>0", " -,1 ,A ,  "},
		// A card that gets the hole of a master is none all the same.
		{"A-, 1, 2", 1, "1>1", "A-, J, K"}, {"A-,B ,  ", 1, "0>0 1>1", "A-,?-,A-"}, {"J  ,   ,1  ,  1", 0, "0>0 0>2", "J  ,J J,J J,J J"},
	} {
		deck, code := impl.InterspersedGang(listed(x.texts), x.column, wired(x.copies))
		same(t, fmt.Sprintf("InterspersedGang of %s with %s", x.texts, x.copies), x.want+" 0", textsOf(deck), code)
		checkInterspersed(t, listed(x.texts), x.column, wired(x.copies))
	}
	// There is no master in front of the first other card.
	for _, texts := range []string{" 1", " 1,A-", " 1, 2,A-, 3", "A&,A-", "A0,A-", "A ,A-"} {
		fails(t, impl.ErrState, impl.InterspersedGang, listed(texts), int64(1), wired("0>0"))
		fails(t, impl.ErrState, impl.InterspersedGang, listed(texts), int64(1), wired(""))
	}
	// The hole must be in the column that is told.
	fails(t, impl.ErrState, impl.InterspersedGang, deckOf("-A", "A "), int64(1), wired("0>0"))
	fails(t, impl.ErrState, impl.InterspersedGang, deckOf("A-", "A "), int64(0), wired("0>0"))
}

// TestInterspersedGangOfSmallDecks compares with a search for the master of each card, for all small decks of three kinds of cards.
func TestInterspersedGangOfSmallDecks(t *testing.T) {
	kinds := deckOf("A -", "BJ ", "  1", " &-")
	codes := map[int64]int{}
	listsOf(kinds, 4, nil, func(deck []impl.Card) {
		for _, text := range []string{"", "0>0", "0>0 1>1 2>2", "1>0 2>1 0>2", "2>1"} {
			for column := range int64(3) {
				codes[checkInterspersed(t, deck, column, wired(text))]++
			}
		}
	})
	same(t, "decks with a master, and those without one in front", "1290 3825", codes[impl.OK], codes[impl.ErrState])
}

// TestMasters checks, for all holes, which cards are masters.
func TestMasters(t *testing.T) {
	for _, mask := range allMasks() {
		deck, code := impl.InterspersedGang([]impl.Card{card(9, 2), card(0, mask)}, 1, wired("0>0"))
		want := card(9, mask)
		if hasRow(mask, 11) {
			want = card(0, mask)
		}
		if code != impl.OK || !impl.SameDeck(deck, []impl.Card{card(9, 2), want}) {
			t.Errorf("InterspersedGang with a card with the holes %d: got %v, %d", mask, deck, code)
		}
		if code = checkInterspersed(t, []impl.Card{card(9, mask)}, 1, nil); (code == impl.OK) != hasRow(mask, 11) {
			t.Errorf("InterspersedGang of a card with the holes %d: got %d", mask, code)
		}
	}
}

func TestCompareCards(t *testing.T) {
	for _, x := range []struct{ a, b, copies, want string }{
		{"ABCD", "DC", "3>0 2>1", "[]"}, {"ABCD", "DX", "3>0 2>1", "[1]"}, {"ABCD", "XC", "3>0 2>1", "[0]"}, {"ABCD", "CD", "3>0 2>1", "[0 1]"}, {"ABCD", "XXXX", "", "[]"},
		// Other columns do not count, but all holes of a column do.
		{"ABCD", "XBXX", "1>1", "[]"}, {"A", "&", "0>0", "[0]"}, {"A", "1", "0>0", "[0]"}, {"A", " ", "0>0", "[0]"}, {" ", "A", "0>0", "[0]"}, {" ", " ", "0>0", "[]"},
		{"A", "ABAB", "0>0 0>1 0>2 0>3", "[1 3]"}, {"AB", "BA", "1>0 0>1", "[]"}, {"AB", "AB", "1>0 0>1", "[0 1]"}, {"ABC", "ABC", "0>0 1>1 2>2", "[]"}, {"ABCDE", "EXCXA", "4>0 3>1 2>2 1>3 0>4", "[1 3]"},
	} {
		differ, code := impl.CompareCards(cardOf(x.a), cardOf(x.b), wired(x.copies))
		same(t, fmt.Sprintf("CompareCards of %s and %s with %s", x.a, x.b, x.copies), x.want+" 0", differ, code)
		checkCompare(t, deckOf(x.a), deckOf(x.b), wired(x.copies))
	}
	for _, mask := range allMasks() {
		differ, code := impl.CompareCards(card(mask), card(mask, mask^1, mask^2048), wired("0>0 0>1 0>2"))
		same(t, fmt.Sprintf("one hole more or less than %d", mask), "[1 2] 0", differ, code)
	}
}

func TestCompareDecks(t *testing.T) {
	for _, x := range []struct {
		a, b, copies string
		want         int64
	}{
		{"AB,CD", "BA,DC", "1>0 0>1", -1}, {"AB,CD", "BA,DX", "1>0 0>1", 1}, {"AB,CD", "XA,DC", "1>0 0>1", 0}, {"AB,CD", "XX,XX", "1>0 0>1", 0}, {"AB,CD", "XX,XX", "", -1}, {"A,B,C,D", "A,B,X,Y", "0>0", 2},
		// Decks of different numbers of cards, with and without a difference before the end of the shorter one.
		{"A,B,C", "A,B", "0>0", 2}, {"A,B", "A,B,C", "0>0", 2}, {"A,B,C", "A,X", "0>0", 1}, {"A,B", "X,B,C", "0>0", 0}, {"A,B,C", "A,B", "", 2}, {"A", "", "0>0", 0}, {"", "A,B", "0>0", 0}, {"A,B,C", "A", "0>0", 1}, {"A,B,C", "A,B,C", "0>0", -1},
		{"ABC,DEF", "A,D", "0>0", -1}, {"ABC,DEF", "C,D", "2>0", 1},
	} {
		at, code := impl.CompareDecks(listed(x.a), listed(x.b), wired(x.copies))
		same(t, fmt.Sprintf("CompareDecks of %s and %s with %s", x.a, x.b, x.copies), fmt.Sprint(x.want, 0), at, code)
		checkCompare(t, listed(x.a), listed(x.b), wired(x.copies))
	}
	for _, a := range goodDecks() {
		for _, b := range goodDecks() {
			for _, text := range []string{"", "0>0", "0>1", "1>0", "0>0 1>1", "19>19", "2>2"} {
				checkCompare(t, a, b, wired(text))
			}
		}
	}
	// The last card of the greatest decks differs.
	a, b := copies(impl.MaxDeck, card(9)), copies(impl.MaxDeck, card(9))
	b[impl.MaxDeck-1].Holes[0] = 8
	same(t, "the last card", "39 0 -1 0 39 0 39 0", slices.Concat(call(impl.CompareDecks, a, b, wired("0>0")), call(impl.CompareDecks, a[:39], b[:39], wired("0>0")), call(impl.CompareDecks, a, b[:39], wired("0>0")), call(impl.CompareDecks, a[:39], b, wired("0>0")))...)
}

func TestBackCopies(t *testing.T) {
	for _, x := range []struct{ text, want string }{
		{"", ""}, {"3>0 2>1", "1>2 0>3"}, {"0>0", "0>0"}, {"5>0 3>1 4>2", "1>3 2>4 0>5"}, {"0>1 1>2 2>3", "1>0 2>1 3>2"}, {"19>0", "0>19"}, {"0>19", "19>0"}, {"2>0 0>1 1>2", "1>0 2>1 0>2"},
	} {
		back, code := impl.BackCopies(wired(x.text))
		same(t, "BackCopies of "+x.text, x.want+" 0", written(back), code)
		checkBack(t, wired(x.text))
	}
	for _, text := range []string{"3>0 3>1", "0>0 0>1", "0>0 1>1 0>2", "1>0 0>1 1>2 0>3", "19>0 19>19", "5>0 4>1 3>2 5>19"} {
		fails(t, impl.ErrClash, impl.BackCopies, wired(text))
		checkBack(t, wired(text))
	}
	// Copies that are not plain are told ahead of those from the same column.
	for _, text := range []string{"0>0 0>0", "3>1 3>0", "0>0 1>0", "20>0", "0>20", "-1>0", "0>-1", "3>0 3>1 0>20", "3>0 3>1 20>2", "3>0 3>1 2>1"} {
		fails(t, impl.ErrRange, impl.BackCopies, wired(text))
	}
}

func TestJoinCopies(t *testing.T) {
	for _, x := range []struct{ a, b, want string }{
		{"", "", ""}, {"0>0", "", ""}, {"", "0>0", ""}, {"0>0", "0>0", "0>0"}, {"3>0 2>1", "0>0 1>1", "3>0 2>1"}, {"3>0 2>1", "1>0 0>1", "2>0 3>1"},
		// Copies with no copy before them, two from one column, and two from one column before them.
		{"3>0 2>1", "1>0 7>2", "2>0"}, {"3>0 2>1", "2>0 3>1", ""}, {"3>0 2>1", "2>0 1>1 0>3 5>4", "2>1 3>3"}, {"3>0 2>1", "1>0 1>2 1>5", "2>0 2>2 2>5"}, {"4>0 4>1", "1>0 0>1", "4>0 4>1"}, {"4>0 4>1", "0>0 1>1 0>2", "4>0 4>1 4>2"},
		// Lists that are plain but not valid for the same cards.
		{"19>0", "0>19", "19>19"}, {"0>19", "19>0", "0>0"}, {"0>19", "0>0", ""}, {"0>19", "18>0", ""}, {"2>7 5>11 1>19", "19>3 7>4 8>5 11>19", "1>3 2>4 5>19"},
	} {
		joined, code := impl.JoinCopies(wired(x.a), wired(x.b))
		same(t, fmt.Sprintf("JoinCopies of %s and %s", x.a, x.b), x.want+" 0", written(joined), code)
		checkJoin(t, wired(x.a), wired(x.b))
	}
	for _, text := range []string{"0>0 0>0", "3>1 3>0", "0>0 1>0", "20>0", "0>20", "-1>0", "0>-1"} {
		for _, other := range []string{"", "0>0", "1>0 0>1", text} {
			fails(t, impl.ErrRange, impl.JoinCopies, wired(text), wired(other))
			fails(t, impl.ErrRange, impl.JoinCopies, wired(other), wired(text))
		}
	}
}

func TestSerialPunch(t *testing.T) {
	for _, x := range []struct {
		texts           string
		from, to, first int64
		want            string
	}{
		{"A  ,B  ", 1, 3, 9, "A09,B10"}, {" ", 0, 1, 0, "0"}, {" , , ", 0, 1, 7, "7,8,9"}, {"   ,   ", 0, 3, 0, "000,001"}, {"   ,   ,   ", 0, 3, 98, "098,099,100"}, {"  A,  A", 0, 2, 98, "98A,99A"},
		// Only the field must be free of holes, and the others keep theirs.
		{"A B,C D", 1, 2, 4, "A4B,C5D"}, {"A  ", 1, 2, 4, "A4 "}, {"AB    ,CD    ", 3, 6, 123, "AB 123,CD 124"},
		// A number with just as many digits as the field has columns.
		{"A    ", 1, 5, 9999, "A9999"}, {"            ", 0, 12, 999999999999, "999999999999"}, {"            ,            ", 0, 12, 999999999998, "999999999998,999999999999"}, {"            ", 0, 12, 0, "000000000000"}, {"A            B", 1, 13, 10, "A000000000010B"}, {"           ", 0, 11, 99999999999, "99999999999"},
	} {
		f := impl.Field{From: x.from, To: x.to}
		deck, code := impl.SerialPunch(listed(x.texts), f, x.first)
		same(t, fmt.Sprintf("SerialPunch of %s from %d on", x.texts, x.first), x.want+" 0", textsOf(deck), code)
		checkSerial(t, listed(x.texts), f, x.first)
	}
	deck, code := impl.SerialPunch(copies(impl.MaxDeck, wide(2, 0)), impl.Field{From: 0, To: 2}, 60)
	same(t, "the greatest deck", "40 60 99 0", len(deck), textIn(deck[0].Holes), textIn(deck[39].Holes), code)
	// The numbers are read again.
	for n := range int64(40) {
		got, code := impl.NumberIn(deck[n], impl.Field{From: 0, To: 2})
		same(t, "a number of the greatest deck", fmt.Sprint(60+n, 0), got, code)
	}
}

// TestErrorsOfSerialPunch checks the errors, each for the first card for which there is one.
func TestErrorsOfSerialPunch(t *testing.T) {
	for _, x := range []struct {
		texts           string
		from, to, first int64
		code            int64
	}{
		{" ", 0, 1, 9, 0}, {" , ", 0, 1, 9, impl.ErrFull}, {" ", 0, 1, 10, impl.ErrFull}, {"A  ,B  ", 1, 3, 99, impl.ErrFull}, {"A  ", 1, 3, 99, 0}, {"A  ", 1, 3, 100, impl.ErrFull}, {"   ", 0, 3, 999999999999, impl.ErrFull},
		{"A 1", 1, 3, 9, impl.ErrClash}, {"A1 ", 1, 3, 9, impl.ErrClash}, {"A-&", 1, 3, 9, impl.ErrClash}, {"A00", 1, 3, 0, impl.ErrClash}, {"A0 ", 1, 3, 9, impl.ErrClash}, {"A  ,B 1", 1, 3, 9, impl.ErrClash}, {"A  ,B10", 1, 3, 9, impl.ErrClash},
		// A number that does not fit in a later card and a column with holes in an earlier one, the other way round, and both in the same card.
		{"1, ", 0, 1, 9, impl.ErrClash}, {" , ,1", 0, 1, 8, impl.ErrFull}, {" ,1, ", 0, 1, 8, impl.ErrClash}, {" , ,1", 0, 1, 9, impl.ErrFull}, {"1", 0, 1, 10, impl.ErrFull}, {" ,1", 0, 1, 9, impl.ErrFull}, {"1, ", 0, 1, 10, impl.ErrFull}, {" ,1", 0, 1, 10, impl.ErrFull}, {"1,1", 0, 1, 9, impl.ErrClash},
		// First and the index together are above MaxCardNumber.
		{"            ,            ", 0, 12, 999999999999, impl.ErrFull}, {"            ,           A", 0, 12, 999999999999, impl.ErrFull}, {"           A,            ", 0, 12, 999999999999, impl.ErrClash},
		// Numbers and fields that are wrong, also where a number does not fit and the field has holes.
		{"1", 0, 1, -1, impl.ErrRange}, {" ", 0, 1, -1, impl.ErrRange}, {"1", 0, 1, 1000000000000, impl.ErrRange}, {" ", 0, 1, 1000000000000, impl.ErrRange}, {"             ", 0, 13, 0, impl.ErrRange}, {"             ", 0, 13, 999999999999, impl.ErrRange}, {"A            ", 0, 13, 1, impl.ErrRange}, {"             ", 0, 12, 1000000000000, impl.ErrRange}, {"             ", 0, 14, 0, impl.ErrRange},
		{"1", 1, 2, 10, impl.ErrRange}, {"1", 0, 2, 10, impl.ErrRange}, {"1", 1, 1, 10, impl.ErrRange}, {"1", -1, 1, 10, impl.ErrRange}, {" ", math.MinInt64, math.MaxInt64, 0, impl.ErrRange}, {" ", 0, 1, math.MaxInt64, impl.ErrRange}, {" ", 0, 1, math.MinInt64, impl.ErrRange},
	} {
		f := impl.Field{From: x.from, To: x.to}
		if _, code := impl.SerialPunch(listed(x.texts), f, x.first); code != x.code {
			t.Errorf("SerialPunch of %s, %v, from %d on: got %d, want %d", x.texts, f, x.first, code, x.code)
		}
		checkSerial(t, listed(x.texts), f, x.first)
	}
	firsts := []int64{math.MinInt64, -1, 0, 1, 9, 10, 60, 61, 99, 999, 99999999999, 100000000000, 999999999959, 999999999960, 999999999998, 999999999999, 1000000000000, math.MaxInt64}
	for _, deck := range slices.Concat(goodDecks(), wrongDecks(), [][]impl.Card{copies(40, wide(20, 0)), copies(40, wide(3, 0))}) {
		for _, f := range append(wrongFields(columnsOf(deck)), impl.Field{From: 0, To: 1}, impl.Field{From: 0, To: 2}, impl.Field{From: 1, To: 3}, impl.Field{From: 0, To: 12}, impl.Field{From: 8, To: 20}, impl.Field{From: 7, To: 20}) {
			for _, first := range firsts {
				checkSerial(t, deck, f, first)
			}
		}
	}
	// Each hole of each column of the field is one too many, and none of the others.
	for column := range 4 {
		for row := range 12 {
			code := checkSerial(t, []impl.Card{wide(4, 0), withHoles(wide(4, 0), column, 1<<row)}, impl.Field{From: 1, To: 3}, 5)
			inField := column == 1 || column == 2
			same(t, fmt.Sprintf("a hole in the column %d", column), fmt.Sprint(inField), code == impl.ErrClash)
		}
	}
}

func TestCopiesText(t *testing.T) {
	for _, text := range []string{"", "0>0", "3>0 2>1", "19>0 0>19", "10>9 9>10", "5>1 5>2 5>3 5>11"} {
		same(t, "CopiesText of "+text, text, impl.CopiesText(wired(text)))
		checkText(t, wired(text))
		same(t, text, "true", checkReadCopies(t, text))
	}
	for _, text := range []string{"0>0 0>0", "3>1 2>0", "0>0 1>0", "20>0", "0>20", "-1>0", "0>-1", "0>0 1>1 20>2", "100>0"} {
		same(t, "CopiesText of "+text, "", impl.CopiesText(wired(text)))
		same(t, text, "false", checkReadCopies(t, text))
	}
	same(t, "no copies", " []", impl.CopiesText(nil), wired(impl.CopiesText([]impl.Copy{})))
	// All plain copies among a few, and all single ones.
	listsOf(inColumns(3, 3), 3, nil, func(list []impl.Copy) { checkText(t, list) })
	listsOf(inColumns(20, 20), 1, nil, func(list []impl.Copy) { checkText(t, list) })
}

// wrongCopiesTexts are texts that are none of copies.
func wrongCopiesTexts() []string {
	return []string{
		" ", "  ", "3>0  2>1", " 3>0", "3>0 ", " 3>0 2>1", "3>0 2>1 ", "3>0\t2>1", "3>0\n", "3>0\n2>1", "3>0,2>1", "3>0\u00a02>1", "3>02>1",
		"3", ">", "3>", ">0", "30", "3 0", "3 > 0", "3> 0", "3 >0", "3>>0", "3>0>1", ">3>0", "3>0>", "3>0 2", "3>0 >", "3-0", "3<0", "0<3", "3=0",
		"+3>0", "3>+0", "-3>0", "3>-0", "-0>0", "0>-1", "-1>0", "03>0", "3>00", "3>01", "00>0", "3.>0", "3>0.", "3e0>0", "0x3>0", "3_0>0", "\u0663>0", "a>b", "3>a", "a>0", "\x00", "3>0\x00", "\xff>0",
		"20>0", "0>20", "100>0", "0>100", "9223372036854775807>0", "9223372036854775808>0", "0>9223372036854775808", "18446744073709551616>0", "18446744073709551619>0", "999999999999999999>0", "1000000000000000000>0", "-9223372036854775808>0", "0>99999999999999999999999999",
		"3>1 2>1", "3>1 2>0", "3>0 3>0", "0>0 1>1 2>1", "0>19 0>0", "0>0 1>1 20>2", "0>0 1>1 2>20",
		strings.Repeat(" ", 1000), strings.Repeat("0>0 ", 1000), strings.Repeat("0", 1000) + ">0", "0>" + strings.Repeat("1", 1000), strings.Repeat(">", 1000),
	}
}

func TestReadCopies(t *testing.T) {
	for _, s := range wrongCopiesTexts() {
		same(t, fmt.Sprintf("%q", s), "[] false false", append(call(impl.ReadCopies, s), checkReadCopies(t, s))...)
	}
	for _, text := range []string{"", "0>0", "3>0 2>1", "19>0 19>19", "0>18 1>19", "3>9 2>10"} {
		list, ok := impl.ReadCopies(text)
		same(t, fmt.Sprintf("ReadCopies(%q)", text), fmt.Sprint(wired(text), true), list, ok)
	}
	var long []string
	for column := range 21 {
		long = append(long, fmt.Sprintf("%d>%d", 19-column, column))
		same(t, "long copies", fmt.Sprint(column < 20), checkReadCopies(t, strings.Join(long, " ")))
	}
}

// TestAllShortTextsOfCopies compares all short texts of some characters with a regular expression.
func TestAllShortTextsOfCopies(t *testing.T) {
	right := 0
	listsOf([]byte("019> -"), 5, nil, func(text []byte) {
		if checkReadCopies(t, string(text)) {
			right++
		}
	})
	// The columns are 0, 1, 9, 10, 11 and 19 here: the empty text, and one copy from and to any of them.
	same(t, "short texts of copies", "37", right)
	pairs := 0
	listsOf([]string{"0>0", "1>0", "0>1", "1>10", "19>9", "0>20", ">", " ", "0", "-"}, 4, nil, func(parts []string) {
		if checkReadCopies(t, strings.Join(parts, "")) {
			pairs++
		}
		checkReadCopies(t, strings.Join(parts, " "))
	})
	if pairs == 0 {
		t.Errorf("no text of two copies")
	}
}

// someCopies are any copies that are valid from cards with so many columns to cards with so many columns.
func someCopies(random *rand.Rand, from, to int) []impl.Copy {
	var list []impl.Copy
	for column := range to {
		if random.IntN(3) > 0 {
			list = append(list, impl.Copy{From: random.Int64N(int64(from)), To: int64(column)})
		}
	}
	return list
}

// TestReproducedCards checks P10 for random cards and valid copies.
func TestReproducedCards(t *testing.T) {
	random := rand.New(rand.NewPCG(10, 1))
	for turn := range 1500 {
		from, to, last := 1+random.IntN(20), 1+random.IntN(20), 1+random.IntN(20)
		if turn%2 == 0 {
			// Small cards have more copies from columns that are no targets of others.
			from, to, last = 1+random.IntN(4), 1+random.IntN(4), 1+random.IntN(4)
		}
		deck := anyDeck(random, turn%41, from, append(allMasks(), 0, 1, 2, 3))
		list, next := someCopies(random, from, to), someCopies(random, to, last)
		same(t, "valid copies", "0", checkReproduce(t, deck, list, int64(to)))
		checkJoined(t, deck, list, next, int64(to), int64(last))
		checkBack(t, list)
		checkText(t, list)
		// A card of another deck, and with one hole more or less.
		others := anyDeck(random, random.IntN(41), to, allMasks())
		checkCompare(t, deck, others, list)
		checkChanged(t, random, deck, list, to)
	}
}

// checkJoined checks that joined copies reproduce what both lists do one after the other.
func checkJoined(t *testing.T, deck []impl.Card, list, next []impl.Copy, width, last int64) {
	t.Helper()
	checkJoin(t, list, next)
	between, one := impl.ReproduceDeck(deck, list, width)
	want, two := impl.ReproduceDeck(between, next, last)
	joined, three := impl.JoinCopies(list, next)
	got, four := impl.ReproduceDeck(deck, joined, last)
	if one != impl.OK || two != impl.OK || three != impl.OK || four != impl.OK || !impl.SameDeck(got, want) {
		t.Errorf("%v by %v and then %v: got %v and, by %v, %v; codes %d, %d, %d, %d", deck, list, next, want, joined, got, one, two, three, four)
	}
	for k, c := range deck {
		between, one := impl.ReproduceCard(c, list, width)
		want, two := impl.ReproduceCard(between, next, last)
		if one != impl.OK || two != impl.OK || !impl.SameCard(want, got[k]) {
			t.Errorf("%v by %v and then %v: got %v, not %v; codes %d, %d", c, list, next, want, got[k], one, two)
		}
	}
}

// checkChanged checks that a reproduced deck differs where a hole of it is changed, just if its column is the target of a copy.
func checkChanged(t *testing.T, random *rand.Rand, deck []impl.Card, list []impl.Copy, width int) {
	t.Helper()
	reproduced, code := impl.ReproduceDeck(deck, list, int64(width))
	if code != impl.OK || len(deck) == 0 {
		return
	}
	at, column := random.IntN(len(deck)), random.IntN(width)
	reproduced[at].Holes[column] ^= 1 << random.IntN(12)
	want := -1
	if slices.ContainsFunc(list, func(x impl.Copy) bool { return x.To == int64(column) }) {
		want = at
	}
	expect(t, fmt.Sprintf("CompareDecks(%v, %v, %v)", deck, reproduced, list), impl.OK, want, call(impl.CompareDecks, deck, reproduced, list))
}

// TestGangPunchOfRandomDecks compares GangPunch and InterspersedGang with the plain ones for random decks of all sizes.
func TestGangPunchOfRandomDecks(t *testing.T) {
	random := rand.New(rand.NewPCG(10, 2))
	for turn := range 1500 {
		from, width := 1+random.IntN(20), 1+random.IntN(20)
		masks := [][]int64{allMasks(), charMasks(), {0, 1, 2, 3}, {0, 0, 0, 2}, {0, 9, 2050, 4095}}[turn%5]
		master, deck := anyDeck(random, 1, from, masks)[0], anyDeck(random, turn%41, width, masks)
		same(t, "a master", "0", checkGang(t, master, deck, someCopies(random, from, width)))
		column := random.Int64N(int64(width))
		if len(deck) > 0 && turn%4 > 0 {
			deck[0].Holes[column] |= 2
			same(t, "masters in a deck", "0", checkInterspersed(t, deck, column, someCopies(random, width, width)))
		}
		checkInterspersed(t, deck, column, someCopies(random, width, width))
	}
}

// TestErrorsOfCopies checks the errors of cards, decks and copies, and their order.
func TestErrorsOfCopies(t *testing.T) {
	texts := []string{"", "0>0", "0>0 0>0", "1>1 0>0", "0>20", "20>0", "-1>0", "0>-1", "0>0 1>1"}
	for _, text := range texts {
		list := wired(text)
		for _, c := range wrongCards() {
			for _, width := range someNumbersOfColumns() {
				fails(t, impl.ErrInvalid, impl.ReproduceCard, c, list, width)
			}
			for _, deck := range slices.Concat(goodDecks(), wrongDecks()) {
				fails(t, impl.ErrInvalid, impl.GangPunch, c, deck, list)
			}
			for _, other := range slices.Concat(someCards(), wrongCards()) {
				fails(t, impl.ErrInvalid, impl.CompareCards, c, other, list)
				fails(t, impl.ErrInvalid, impl.CompareCards, other, c, list)
			}
		}
		for _, wrong := range wrongDecks() {
			for _, width := range someNumbersOfColumns() {
				fails(t, impl.ErrInvalid, impl.ReproduceDeck, wrong, list, width)
				fails(t, impl.ErrInvalid, impl.InterspersedGang, wrong, width, list)
			}
			for _, deck := range slices.Concat(goodDecks(), wrongDecks()) {
				fails(t, impl.ErrInvalid, impl.CompareDecks, deck, wrong, list)
				fails(t, impl.ErrInvalid, impl.CompareDecks, wrong, deck, list)
			}
			for _, c := range someCards() {
				fails(t, impl.ErrInvalid, impl.GangPunch, c, wrong, list)
			}
		}
	}
	for _, text := range []string{"0>0 0>0", "1>1 0>0", "0>20", "20>0", "-1>0", "0>-1"} {
		list := wired(text)
		for _, deck := range goodDecks() {
			for _, column := range someNumbersOfColumns() {
				fails(t, impl.ErrRange, impl.ReproduceDeck, deck, list, column)
				fails(t, impl.ErrRange, impl.InterspersedGang, deck, column, list)
			}
			for _, other := range goodDecks() {
				fails(t, impl.ErrRange, impl.CompareDecks, deck, other, list)
			}
		}
		for _, c := range someCards() {
			fails(t, impl.ErrRange, impl.ReproduceCard, c, list, int64(5))
			fails(t, impl.ErrRange, impl.CompareCards, c, c, list)
			fails(t, impl.ErrRange, impl.GangPunch, c, deckOf("AB", "CD"), list)
		}
	}
	// A column that is none of the cards is told ahead of a deck whose first card is no master.
	for _, deck := range [][]impl.Card{deckOf("AB", "CD"), deckOf("A-", "CD"), deckOf("--", "--")} {
		for _, column := range wrongColumns(2) {
			fails(t, impl.ErrRange, impl.InterspersedGang, deck, column, wired("0>0"))
		}
	}
	// So are copies that the cards cannot have.
	fails(t, impl.ErrRange, impl.InterspersedGang, deckOf("AB", "CD"), int64(1), wired("2>0"))
	fails(t, impl.ErrRange, impl.InterspersedGang, deckOf("AB", "CD"), int64(1), wired("0>2"))
	for _, width := range []int64{math.MinInt64, -1, 0, 21, math.MaxInt64} {
		fails(t, impl.ErrRange, impl.ReproduceCard, cardOf("AB"), wired(""), width)
		fails(t, impl.ErrRange, impl.ReproduceDeck, deckOf("AB"), wired("0>0"), width)
		fails(t, impl.ErrRange, impl.ReproduceDeck, []impl.Card(nil), wired(""), width)
	}
}

// TestReproducerOfAllKinds compares all functions with the plain ones for all combinations of some decks, copies and numbers, most of which are wrong in one or several ways.
func TestReproducerOfAllKinds(t *testing.T) {
	decks := [][]impl.Card{
		nil, {}, {{}}, {card(9)}, {card(2)}, {card(4096)}, {card(9), card(9, 9)}, deckOf("A1", "C1"), deckOf("--", "C1"), deckOf("-1", " 2", " -", "  "), deckOf(" -", " -", "- "), {card(3, 4095), card(0, 0)}, deckOf("A1X", "J- ", "   "),
		copies(40, card(2, 9)), copies(41, card(2, 9)), append(copies(39, card(2, 2)), card(4096, 2)), {wide(20, 9)}, {wide(20, 2), wide(20, 0)}, {wide(21, 9)}, {worn(19)},
	}
	var lists [][]impl.Copy
	for _, text := range []string{"", "0>0", "1>1", "0>1", "1>0", "1>0 0>1", "0>0 1>0", "1>1 0>0", "0>0 0>1", "2>0", "0>2", "19>0", "0>19", "19>19", "20>0", "0>20", "-1>0", "0>-1", "0>0 1>1 2>2", "9223372036854775807>0", "0>-9223372036854775808"} {
		lists = append(lists, wired(text))
	}
	codes := map[int64]int{}
	for _, list := range lists {
		for _, a := range decks {
			for _, n := range someNumbersOfColumns() {
				codes[checkReproduce(t, a, list, n)]++
				codes[checkInterspersed(t, a, n, list)]++
			}
			for _, b := range decks {
				codes[checkCompare(t, a, b, list)]++
				if len(a) > 0 {
					codes[checkGang(t, a[0], b, list)]++
				}
			}
		}
		for _, other := range lists {
			codes[checkJoin(t, list, other)]++
		}
		codes[checkBack(t, list)]++
	}
	for _, deck := range decks {
		for _, from := range someNumbersOfColumns() {
			for _, to := range someNumbersOfColumns() {
				for _, first := range []int64{math.MinInt64, -1, 0, 5, 10, 970, 999999999970, 999999999999, 1000000000000, math.MaxInt64} {
					codes[checkSerial(t, deck, impl.Field{From: from, To: to}, first)]++
				}
			}
		}
	}
	// The combinations have all these errors.
	for _, code := range []int64{impl.OK, impl.ErrInvalid, impl.ErrRange, impl.ErrFull, impl.ErrState, impl.ErrClash} {
		if codes[code] == 0 {
			t.Errorf("no combination with the code %d: %v", code, codes)
		}
	}
}
