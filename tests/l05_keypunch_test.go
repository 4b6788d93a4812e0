package tests

import (
	"fmt"
	"math"
	"regexp"
	"slices"
	"strconv"
	"strings"
	"testing"

	"loop.example/g01012/impl"
)

// somePrograms are program cards, those of one kind of letter and without a letter that wants a key included.
func somePrograms() []string {
	list := []string{"mmnnsd", "dsnm", "sd", "ds", "mn", "nm", "mdmsmn", "nnnnnnnnnm", "mmmmmmmmmmnnnnnsssdd", "dsdsdsdsdsdsdsdsdsds", "mnsdmnsdmnsdmnsdmnsd"}
	for _, letter := range []string{"m", "n", "s", "d"} {
		for _, length := range []int{1, 2, 3, 9, 10, 19, impl.MaxColumns} {
			list = append(list, strings.Repeat(letter, length))
		}
	}
	return list
}

// wrongPrograms are texts of no program card.
func wrongPrograms() []string {
	list := []string{
		"", " ", "x", "mx", "xm", "mnxsd", "M", "N", "S", "D", "mmnnsD", "Mmnnsd", "m ", " m", "m n", "m1", "m\n", "\x00", "m\x00", "\xff", "m\xff", "\xffm", "\xedm", "é", "mé", "\u016d", "m\u016d", "m\u2028n", "\ufffd", "m\ufffd", "0", "-", "l", "o", "r", "t", "c", "e", "m,n", "m2 n2 s1 d1",
		strings.Repeat("mnsd", 5) + "m", strings.Repeat("s", 1000), strings.Repeat("x", 21), strings.Repeat("é", 10), strings.Repeat("m", 20) + " ",
	}
	for _, letter := range []string{"m", "n", "s", "d"} {
		list = append(list, strings.Repeat(letter, impl.MaxColumns+1), strings.Repeat(letter, impl.MaxColumns-1)+"x", "x"+strings.Repeat(letter, impl.MaxColumns-1))
	}
	return list
}

// allPrograms are all texts of the four letters, with 1 to most of them.
func allPrograms(most int) []string {
	list, longest := []string{}, []string{""}
	for range most {
		var longer []string
		for _, program := range longest {
			longer = append(longer, program+"m", program+"n", program+"s", program+"d")
		}
		list, longest = append(list, longer...), longer
	}
	return list
}

// wants returns how many keys a program card wants.
func wants(program string) int {
	return strings.Count(program, "m") + strings.Count(program, "n")
}

// keyHoles returns the holes of a column for which a key is struck, and the error of the key.
func keyHoles(letter, key byte) (int64, int64) {
	rank := rankOfByte(key)
	switch {
	case rank < 0:
		return 0, impl.ErrSyntax
	case letter == 'n' && !strings.Contains("0123456789", string(key)):
		return 0, impl.ErrJam
	}
	return alphabet()[rank].holes, impl.OK
}

// keyed returns the columns that are punched with keys behind a card, and the error of the keys.
func keyed(program string, before []int64, keys string) ([]int64, int64) {
	if len(keys) != wants(program) {
		return nil, impl.ErrFull
	}
	holes := make([]int64, len(program))
	for column := range len(program) {
		switch program[column] {
		case 'm', 'n':
			mask, code := keyHoles(program[column], keys[0])
			if code != impl.OK {
				return nil, code
			}
			holes[column], keys = mask, keys[1:]
		case 'd':
			holes[column] = before[column]
		}
	}
	return holes, impl.OK
}

// keysOf returns the keys for a card, and whether there are any.
func keysOf(program string, before, holes []int64) (string, bool) {
	keys := ""
	for column := range len(program) {
		mask, rank := holes[column], rankOfHoles(holes[column])
		switch {
		case program[column] == 's' && mask != 0, program[column] == 'd' && mask != before[column]:
			return "", false
		case program[column] == 's' || program[column] == 'd':
			continue
		case rank < 0 || program[column] == 'n' && rank < 30:
			return "", false
		}
		keys += string(alphabet()[rank].char)
	}
	return keys, true
}

// worn is a card with so many columns, which have no holes, those of a character, or those of none.
func worn(width int) impl.Card {
	return card(slices.Repeat([]int64{3, 9, 0, impl.AllRows, 16, 6, 2}, 3)[:width]...)
}

// someKeys are texts of keys for a program card: right ones, and wrong ones of all kinds in several places.
func someKeys(program string) []string {
	count := wants(program)
	list := []string{strings.Repeat("7", count), strings.Repeat("0", count+1), strings.Repeat("a", count+1), strings.Repeat("7", count+100), strings.Repeat("A", count), strings.Repeat("a", count)}
	if count > 0 {
		list = append(list, strings.Repeat("7", count-1), strings.Repeat("a", count-1), "")
		for _, key := range []string{" ", "&", "-", "/", "Z", "z", "\xff", "\n"} {
			list = append(list, key+strings.Repeat("7", count-1), strings.Repeat("7", count-1)+key)
		}
	}
	return list
}

func TestLettersOfProgramCards(t *testing.T) {
	same(t, "letters", "109 110 115 100", int64(impl.KeyManual), int64(impl.KeyNumeric), int64(impl.KeySkip), int64(impl.KeyDuplicate))
}

func TestValidProgram(t *testing.T) {
	for _, program := range append(somePrograms(), allPrograms(4)...) {
		if !impl.ValidProgram(program) {
			t.Errorf("ValidProgram(%q): false", program)
		}
	}
	for _, program := range wrongPrograms() {
		if impl.ValidProgram(program) {
			t.Errorf("ValidProgram(%q): true", program)
		}
	}
	for b := range 256 {
		want := b == 'm' || b == 'n' || b == 's' || b == 'd'
		for _, program := range []string{string([]byte{byte(b)}), string([]byte{byte(b), 'm'}), string([]byte{'s', 'd', byte(b)})} {
			if impl.ValidProgram(program) != want {
				t.Errorf("ValidProgram(%q): not %v", program, want)
			}
		}
	}
	for length := range 50 {
		want := 1 <= length && length <= 20
		if impl.ValidProgram(strings.Repeat("d", length)) != want || impl.ValidProgram(strings.Repeat("mnsd", 20)[:length]) != want {
			t.Errorf("ValidProgram of %d letters: not %v", length, want)
		}
	}
}

func TestKeysNeeded(t *testing.T) {
	for _, x := range []struct {
		program string
		want    int64
	}{
		{"mmnnsd", 4}, {"m", 1}, {"n", 1}, {"s", 0}, {"d", 0}, {"sd", 0}, {"dsnm", 2}, {strings.Repeat("m", 20), 20}, {strings.Repeat("n", 20), 20}, {strings.Repeat("s", 20), 0}, {strings.Repeat("d", 20), 0}, {strings.Repeat("mnsd", 5), 10},
	} {
		n, code := impl.KeysNeeded(x.program)
		same(t, fmt.Sprintf("KeysNeeded(%q)", x.program), fmt.Sprint(x.want, " 0"), n, code)
	}
	for _, program := range allPrograms(5) {
		if n, code := impl.KeysNeeded(program); code != impl.OK || n != int64(wants(program)) {
			t.Errorf("KeysNeeded(%q): got %d, %d", program, n, code)
		}
	}
	for _, program := range wrongPrograms() {
		fails(t, impl.ErrInvalid, impl.KeysNeeded, program)
	}
}

func TestPunchByProgram(t *testing.T) {
	for _, x := range []struct {
		program string
		before  []int64
		keys    string
		want    []int64
	}{
		{"mmnnsd", cardOf("ZZ99 Q").Holes, "AB12", cardOf("AB12 Q").Holes},
		{"mmnnsd", cardOf("ZZ99XQ").Holes, "&-09", cardOf("&-09 Q").Holes},
		{"m", []int64{4095}, " ", []int64{0}},
		{"m", []int64{4095}, "-", []int64{2}},
		{"n", []int64{4095}, "0", []int64{4}},
		{"n", []int64{3}, "9", []int64{2048}},
		{"s", []int64{4095}, "", []int64{0}},
		// Holes of no character, in all rows, and none are duplicated like others.
		{"d", []int64{4095}, "", []int64{4095}},
		{"d", []int64{0}, "", []int64{0}},
		{"dddd", []int64{3, 4095, 0, 9}, "", []int64{3, 4095, 0, 9}},
		{"dsdm", []int64{6, 6, 4095, 6}, "A", []int64{6, 0, 4095, 9}},
		{"ndms", []int64{6, 0, 6, 6}, "1 ", []int64{8, 0, 0, 0}},
		// Each duplicated column has the holes of the same column, not of the one before it.
		{"mdmdmd", []int64{1, 2, 4, 8, 16, 32}, "A1Z", []int64{9, 2, 8, 8, 2052, 32}},
	} {
		c, code := impl.PunchByProgram(x.program, card(x.before...), x.keys)
		if code != impl.OK || !slices.Equal(c.Holes, x.want) {
			t.Errorf("PunchByProgram(%q, %v, %q): got %v, %d, want %v", x.program, x.before, x.keys, c, code, x.want)
		}
	}
	for mask := int64(0); mask <= impl.AllRows; mask++ {
		c, code := impl.PunchByProgram("dsd", card(mask, mask, 5), "")
		if code != impl.OK || !slices.Equal(c.Holes, []int64{mask, 0, 5}) {
			t.Errorf("duplicated and skipped columns with the holes %d: got %v, %d", mask, c, code)
		}
	}
}

// checkKeys checks what keys punch behind a card, and P5: these are the keys for the card that is punched.
func checkKeys(t *testing.T, program string, before impl.Card, keys string) {
	t.Helper()
	holes, code := keyed(program, before.Holes, keys)
	if code != impl.OK {
		fails(t, code, impl.PunchByProgram, program, before, keys)
		fails(t, code, impl.VerifyCard, program, before, before, keys)
		fails(t, code, impl.PunchAll, program, before, []string{keys})
		fails(t, code, impl.VerifyAll, program, before, []impl.Card{before}, []string{keys})
		return
	}
	c, one := impl.PunchByProgram(program, before, keys)
	if one != impl.OK || !slices.Equal(c.Holes, holes) {
		t.Errorf("PunchByProgram(%q, %v, %q): got %v, %d, want %v", program, before, keys, c, one, holes)
		return
	}
	if back, code := impl.KeysFor(program, before, c); code != impl.OK || back != keys {
		t.Errorf("KeysFor(%q, %v, %v): got %q, %d, want %q", program, before, c, back, code, keys)
	}
	if column, code := impl.VerifyCard(program, before, c, keys); code != impl.OK || column != -1 {
		t.Errorf("VerifyCard(%q, %v, %v, %q): got %d, %d, want -1", program, before, c, keys, column, code)
	}
}

// TestKeysOfAllBytes checks P5, and the errors, for all bytes as keys.
func TestKeysOfAllBytes(t *testing.T) {
	for b := range 256 {
		key := string([]byte{byte(b)})
		for _, program := range []string{"m", "n"} {
			checkKeys(t, program, card(5), key)
		}
		for _, program := range []string{"mm", "mn", "nm", "nn", "smdn", "ndms"} {
			before := worn(len(program))
			checkKeys(t, program, before, key+"7")
			checkKeys(t, program, before, "7"+key)
			checkKeys(t, program, before, key+key)
		}
	}
}

// TestSmallProgramCards checks P5, and the errors, for all program cards of at most four letters and keys of all kinds.
func TestSmallProgramCards(t *testing.T) {
	texts := [][]string{{""}}
	for count := range 5 {
		texts = append(texts, nil)
		for _, text := range texts[count] {
			for _, key := range "A5 -&ax" {
				texts[count+1] = append(texts[count+1], text+string(key))
			}
		}
	}
	for _, program := range allPrograms(4) {
		for _, before := range []impl.Card{worn(len(program)), wide(len(program), 0)} {
			for _, keys := range texts[wants(program)] {
				checkKeys(t, program, before, keys)
			}
		}
		for _, keys := range someKeys(program) {
			checkKeys(t, program, worn(len(program)), keys)
		}
	}
	for _, program := range somePrograms() {
		for _, before := range []impl.Card{worn(len(program)), wide(len(program), impl.AllRows), wide(len(program), 16)} {
			for _, keys := range someKeys(program) {
				checkKeys(t, program, before, keys)
			}
			checkKeys(t, program, before, strings.Repeat("0123456789", 2)[:wants(program)])
			checkKeys(t, program, before, allChars()[11:11+wants(program)])
		}
	}
}

// errorsOfKeys are wrong keys, with their errors.
var errorsOfKeys = []struct {
	program, keys string
	code          int64
}{
	{"mmnnsd", "AB1", impl.ErrFull}, {"mmnnsd", "", impl.ErrFull}, {"mmnnsd", "AB123", impl.ErrFull}, {"mmnnsd", "AB12  ", impl.ErrFull},
	// Their number is told ahead of what they are.
	{"mmnnsd", "aB1", impl.ErrFull}, {"mmnnsd", "ABC", impl.ErrFull}, {"mmnnsd", "aBC12", impl.ErrFull}, {"mmnnsd", "ABCDEF", impl.ErrFull},
	{"s", " ", impl.ErrFull}, {"d", "A", impl.ErrFull}, {"sd", "a", impl.ErrFull}, {"m", "AA", impl.ErrFull}, {"n", "", impl.ErrFull},
	{"mmnnsd", "aB12", impl.ErrSyntax}, {"mmnnsd", "Ab12", impl.ErrSyntax}, {"mmnnsd", "ABa2", impl.ErrSyntax}, {"mmnnsd", "AB1a", impl.ErrSyntax},
	{"mmnnsd", "ABC2", impl.ErrJam}, {"mmnnsd", "AB1C", impl.ErrJam}, {"n", " ", impl.ErrJam}, {"n", "&", impl.ErrJam}, {"n", "-", impl.ErrJam}, {"n", "/", impl.ErrJam}, {"n", "A", impl.ErrJam}, {"n", "J", impl.ErrJam}, {"n", "Z", impl.ErrJam},
	{"n", "a", impl.ErrSyntax}, {"n", "+", impl.ErrSyntax}, {"n", ":", impl.ErrSyntax}, {"n", "\xff", impl.ErrSyntax}, {"m", "\x00", impl.ErrSyntax}, {"m", "\n", impl.ErrSyntax},
	// Of several wrong keys, the first one is told.
	{"nn", "Aa", impl.ErrJam}, {"nn", "aA", impl.ErrSyntax}, {"mn", "aA", impl.ErrSyntax}, {"nm", "Aa", impl.ErrJam}, {"nmn", "1aA", impl.ErrSyntax}, {"nnm", "1Aa", impl.ErrJam}, {"mmnnsd", "ABCa", impl.ErrJam}, {"mmnnsd", "ABaC", impl.ErrSyntax}, {"mmnnsd", "AaCC", impl.ErrSyntax},
	// A key is a byte.
	{"m", "é", impl.ErrFull}, {"mm", "é", impl.ErrSyntax}, {"n", "\u0661", impl.ErrFull}, {"nnn", "\uff11", impl.ErrSyntax}, {"m", "\u0141", impl.ErrFull}, {"mm", "\u0141", impl.ErrSyntax},
}

func TestErrorsOfKeys(t *testing.T) {
	for _, x := range errorsOfKeys {
		before := wide(len(x.program), 16)
		fails(t, x.code, impl.PunchByProgram, x.program, before, x.keys)
		fails(t, x.code, impl.PunchAll, x.program, before, []string{x.keys})
		for _, c := range []impl.Card{before, wide(len(x.program), 3)} {
			fails(t, x.code, impl.VerifyCard, x.program, before, c, x.keys)
			fails(t, x.code, impl.VerifyAll, x.program, before, []impl.Card{c}, []string{x.keys})
		}
	}
}

// punchings are calls of the functions with a program card and cards, whatever their errors.
func punchings(program string, before, c impl.Card, keys string) []trial {
	return []trial{
		{"KeysFor", impl.KeysFor, []any{program, before, c}},
		{"VerifyCard", impl.VerifyCard, []any{program, before, c, keys}},
		{"VerifyAll", impl.VerifyAll, []any{program, before, []impl.Card{c}, []string{keys}}},
		{"VerifyAll", impl.VerifyAll, []any{program, before, []impl.Card{c, c}, []string{keys}}},
	}
}

// punchingsBehind are calls of the functions with a program card and a card before.
func punchingsBehind(program string, before impl.Card, keys string) []trial {
	return []trial{
		{"PunchByProgram", impl.PunchByProgram, []any{program, before, keys}},
		{"PunchAll", impl.PunchAll, []any{program, before, []string{keys}}},
		{"PunchAll", impl.PunchAll, []any{program, before, []string{}}},
		{"PunchAll", impl.PunchAll, []any{program, before, slices.Repeat([]string{keys}, impl.MaxDeck+1)}},
		{"VerifyAll", impl.VerifyAll, []any{program, before, []impl.Card(nil), []string(nil)}},
		{"VerifyAll", impl.VerifyAll, []any{program, before, []impl.Card(nil), []string{keys}}},
	}
}

func allFail(t *testing.T, code int64, calls []trial) {
	t.Helper()
	for _, x := range calls {
		fails(t, code, x.function, x.arguments...)
	}
}

// TestErrorsOfPunching checks ErrInvalid and ErrRange, in this order, of the functions with a program card and cards.
func TestErrorsOfPunching(t *testing.T) {
	wrong := append(wrongCards(), wide(6, -1), wide(6, impl.AllRows+1), card(9, 9, 9, 9, 9, 4096), card(-1, 9, 9, 9, 9, 9))
	texts := []string{"", "AB12", "AB1", "aB12", "ABC2"}
	for _, keys := range texts {
		for _, program := range wrongPrograms() {
			for _, c := range []impl.Card{wide(max(1, min(len(program), 20)), 0), card(9), {}, wide(21, 0), card(-1)} {
				allFail(t, impl.ErrInvalid, punchingsBehind(program, c, keys))
				allFail(t, impl.ErrInvalid, punchings(program, c, c, keys))
			}
		}
		for _, c := range wrong {
			// Another card of another width does not matter for this.
			for _, other := range []impl.Card{cardOf("ZZ99 Q"), card(9), wide(20, 0), {}} {
				allFail(t, impl.ErrInvalid, punchings("mmnnsd", c, other, keys))
				allFail(t, impl.ErrInvalid, punchings("mmnnsd", other, c, keys))
			}
			allFail(t, impl.ErrInvalid, punchingsBehind("mmnnsd", c, keys))
			allFail(t, impl.ErrInvalid, punchingsBehind("m", c, keys))
		}
		for width := 1; width <= impl.MaxColumns; width++ {
			if width == 6 {
				continue
			}
			for _, c := range []impl.Card{wide(width, 0), wide(width, 3)} {
				allFail(t, impl.ErrRange, punchingsBehind("mmnnsd", c, keys))
				allFail(t, impl.ErrRange, punchings("mmnnsd", c, c, keys))
				allFail(t, impl.ErrRange, punchings("mmnnsd", c, cardOf("AB12 Q"), keys))
				allFail(t, impl.ErrRange, punchings("mmnnsd", cardOf("AB12 Q"), c, keys))
			}
		}
	}
	// A program card without a column that is duplicated wants a card before with as many columns, too.
	for _, program := range []string{"m", "n", "s", "d"} {
		allFail(t, impl.ErrRange, punchingsBehind(program, card(0, 0), "7"))
		allFail(t, impl.ErrRange, punchingsBehind(program+program, card(0), "7"))
	}
}

func TestKeysFor(t *testing.T) {
	for _, x := range []struct {
		program   string
		before, c []int64
		want      string
	}{
		{"mmnnsd", cardOf("ZZ99 Q").Holes, cardOf("AB12 Q").Holes, "AB12"},
		{"mmnnsd", cardOf("ZZ99XQ").Holes, cardOf(" &00 Q").Holes, " &00"},
		{"sd", []int64{3, 3}, []int64{0, 3}, ""},
		{"d", []int64{4095}, []int64{4095}, ""},
		{"s", []int64{4095}, []int64{0}, ""},
		{"mm", []int64{0, 0}, []int64{0, 0}, "  "},
		{"mdn", []int64{6, 6, 6}, []int64{2, 6, 2048}, "-9"},
	} {
		keys, code := impl.KeysFor(x.program, card(x.before...), card(x.c...))
		if code != impl.OK || keys != x.want {
			t.Errorf("KeysFor(%q, %v, %v): got %q, %d, want %q", x.program, x.before, x.c, keys, code, x.want)
		}
	}
	for _, holes := range [][]int64{
		// Other holes in a column that is skipped or duplicated.
		cardOf("AB12XQ").Holes, cardOf("AB12 R").Holes, cardOf("AB12  ").Holes, cardOf("AB120Q").Holes, cardOf("AB12QQ").Holes, cardOf("AB12 &").Holes,
		// No digit for KeyNumeric.
		cardOf("ABC2 Q").Holes, cardOf("AB1B Q").Holes, cardOf("AB 2 Q").Holes, cardOf("AB1  Q").Holes, cardOf("AB-2 Q").Holes, cardOf("AB&2 Q").Holes, cardOf("AB1/ Q").Holes,
		// Holes of no character.
		{3, 17, 8, 16, 0, 1026}, {9, 6, 8, 16, 0, 1026}, {9, 17, 3, 16, 0, 1026}, {9, 17, 8, 4095, 0, 1026}, {9, 17, 8, 18 | 1, 0, 1026}, {9, 17, 8, 16, 3, 1026}, {9, 17, 8, 16, 0, 3}, {9, 17, 24, 16, 0, 1026}, {9, 17, 8, 12 | 1, 0, 1026},
	} {
		fails(t, impl.ErrNotFound, impl.KeysFor, "mmnnsd", cardOf("ZZ99 Q"), card(holes...))
	}
	for mask := int64(0); mask <= impl.AllRows; mask++ {
		for _, program := range []string{"m", "n", "s", "d"} {
			checkKeysFor(t, program, card(5), card(mask))
			checkKeysFor(t, program, card(mask), card(mask))
		}
	}
}

// checkKeysFor checks P5: the keys for a card give it again, and there are some just if a text of keys can give it.
func checkKeysFor(t *testing.T, program string, before, c impl.Card) {
	t.Helper()
	want, exist := keysOf(program, before.Holes, c.Holes)
	if !exist {
		fails(t, impl.ErrNotFound, impl.KeysFor, program, before, c)
		return
	}
	keys, code := impl.KeysFor(program, before, c)
	if code != impl.OK || keys != want {
		t.Errorf("KeysFor(%q, %v, %v): got %q, %d, want %q", program, before, c, keys, code, want)
		return
	}
	if again, code := impl.PunchByProgram(program, before, keys); code != impl.OK || !impl.SameCard(again, c) {
		t.Errorf("PunchByProgram(%q, %v, %q), the keys for %v: got %v, %d", program, before, keys, c, again, code)
	}
	if column, code := impl.VerifyCard(program, before, c, keys); code != impl.OK || column != -1 {
		t.Errorf("VerifyCard(%q, %v, %v, %q), the keys for it: got %d, %d", program, before, c, keys, column, code)
	}
}

// cardsOf are all cards with so many columns, each of which has one of some holes.
func cardsOf(width int, masks ...int64) []impl.Card {
	cards := []impl.Card{{}}
	for range width {
		var wider []impl.Card
		for _, c := range cards {
			for _, mask := range masks {
				wider = append(wider, card(append(slices.Clone(c.Holes), mask)...))
			}
		}
		cards = wider
	}
	return cards
}

// TestKeysForSmallCards checks P5 for all program cards of at most three letters, and cards with all kinds of holes.
func TestKeysForSmallCards(t *testing.T) {
	for _, program := range allPrograms(3) {
		for _, c := range cardsOf(len(program), 0, 1, 2, 4, 9, 2048, 3, impl.AllRows) {
			for _, before := range []impl.Card{c, worn(len(program)), wide(len(program), 0)} {
				checkKeysFor(t, program, before, c)
			}
		}
	}
}

// TestVerifyCard changes each column of cards that are punched.
func TestVerifyCard(t *testing.T) {
	for _, program := range append(somePrograms(), allPrograms(3)...) {
		before := worn(len(program))
		keys := strings.Repeat("7", wants(program))
		good, _ := keyed(program, before.Holes, keys)
		for column := range good {
			for _, mask := range []int64{0, 1, 3, 512, impl.AllRows, good[column] ^ 1, good[column] ^ 2048} {
				c := card(slices.Clone(good)...)
				c.Holes[column] = mask
				want := int64(column)
				if mask == good[column] {
					want = -1
				}
				if got, code := impl.VerifyCard(program, before, c, keys); code != impl.OK || got != want {
					t.Errorf("VerifyCard(%q, %v, %v, %q): got %d, %d, want %d", program, before, c, keys, got, code, want)
				}
				// Of several columns, the first one is told.
				for later := column + 1; later < len(good) && want >= 0; later++ {
					c.Holes[later] ^= 4
					if got, code := impl.VerifyCard(program, before, c, keys); code != impl.OK || got != want {
						t.Errorf("VerifyCard(%q, %v, %v, %q): got %d, %d, want %d", program, before, c, keys, got, code, want)
					}
				}
			}
		}
	}
	// The card before counts where it is duplicated, the character of a key where one is struck.
	for _, x := range []struct {
		before, c, keys string
		want            int64
	}{
		{"ZZ99 Q", "AB13 Q", "AB12", 3}, {"ZZ99 Q", "AB12 Q", "AB12", -1}, {"ZZ99 Q", "AB12 R", "AB12", 5}, {"ZZ99 R", "AB12 Q", "AB12", 5}, {"ZZ99 Q", "AB12XQ", "AB12", 4}, {"ZZ99XQ", "AB12XQ", "AB12", 4}, {"ZZ99 Q", "BB13XR", "AB12", 0}, {"ZZ99 Q", "AB12 Q", " B12", 0}, {"ZZ99 Q", "A 12 Q", "A 12", -1},
	} {
		column, code := impl.VerifyCard("mmnnsd", cardOf(x.before), cardOf(x.c), x.keys)
		same(t, fmt.Sprintf("VerifyCard of %q behind %q with %q", x.c, x.before, x.keys), fmt.Sprint(x.want, " 0"), column, code)
	}
}

func TestPunchAll(t *testing.T) {
	for _, x := range []struct {
		program string
		first   impl.Card
		keys    []string
		want    []impl.Card
	}{
		{"mmnnsd", cardOf("ZZ99XQ"), []string{"AB12", "CD34"}, []impl.Card{cardOf("AB12 Q"), cardOf("CD34 Q")}},
		{"mmnnsd", cardOf("ZZ99XQ"), []string{"CD34", "AB12", "CD34"}, []impl.Card{cardOf("CD34 Q"), cardOf("AB12 Q"), cardOf("CD34 Q")}},
		{"mmnnsd", cardOf("ZZ99XQ"), nil, nil},
		{"mmnnsd", cardOf("ZZ99XQ"), []string{}, nil},
		// Holes of no character are handed on from card to card.
		{"dsdn", card(3, 9, 4095, 9), []string{"1", "0"}, []impl.Card{card(3, 0, 4095, 8), card(3, 0, 4095, 4)}},
		{"ds", card(6, 6), []string{"", "", ""}, []impl.Card{card(6, 0), card(6, 0), card(6, 0)}},
	} {
		deck, code := impl.PunchAll(x.program, x.first, x.keys)
		if code != impl.OK || !impl.SameDeck(deck, x.want) {
			t.Errorf("PunchAll(%q, %v, %q): got %v, %d, want %v", x.program, x.first, x.keys, deck, code, x.want)
		}
	}
}

// TestPunchAllOfAllCounts punches decks of all sizes, and checks P5 for each card behind the one before it.
func TestPunchAllOfAllCounts(t *testing.T) {
	for _, program := range []string{"mdsn", "sd", "d", "nm", "mmmmmmmmmmnnnnnsssdd"} {
		first := worn(len(program))
		var keys []string
		for count := range impl.MaxDeck + 1 {
			deck, code := impl.PunchAll(program, first, keys)
			if code != impl.OK || len(deck) != count || !impl.ValidDeck(deck) {
				t.Fatalf("PunchAll(%q, %v, %q): got %v, %d", program, first, keys, deck, code)
			}
			before := first
			for k, c := range deck {
				if holes, _ := keyed(program, before.Holes, keys[k]); !slices.Equal(c.Holes, holes) {
					t.Errorf("PunchAll(%q, %v, %q): the card %d is %v, want %v", program, first, keys, k, c, holes)
				}
				if got, code := impl.KeysFor(program, before, c); code != impl.OK || got != keys[k] {
					t.Errorf("KeysFor(%q, %v, %v): got %q, %d, want %q", program, before, c, got, code, keys[k])
				}
				before = c
			}
			if wrong, code := impl.VerifyAll(program, first, deck, keys); code != impl.OK || len(wrong) != 0 {
				t.Errorf("VerifyAll of PunchAll(%q, %v, %q): got %v, %d", program, first, keys, wrong, code)
			}
			keys = append(keys, strings.Repeat(strconv.Itoa(count%10), wants(program)))
		}
		fails(t, impl.ErrFull, impl.PunchAll, program, first, keys)
		fails(t, impl.ErrFull, impl.PunchAll, program, first, slices.Repeat(keys, 50))
	}
	// Their number is told ahead of what they are.
	for _, text := range []string{"", "7", "a", "A", "77"} {
		fails(t, impl.ErrFull, impl.PunchAll, "n", card(0), slices.Repeat([]string{text}, impl.MaxDeck+1))
	}
}

// TestErrorsOfSeveralKeys checks that of several texts of keys the first wrong one is told.
func TestErrorsOfSeveralKeys(t *testing.T) {
	texts := []struct {
		keys string
		code int64
	}{{"A1", impl.OK}, {"A", impl.ErrFull}, {"a12", impl.ErrFull}, {"a1", impl.ErrSyntax}, {"Aa", impl.ErrSyntax}, {"AB", impl.ErrJam}}
	for _, one := range texts {
		for _, two := range texts {
			for _, three := range texts {
				keys := []string{one.keys, two.keys, three.keys}
				code := one.code
				if code == impl.OK {
					code = two.code
				}
				if code == impl.OK {
					code = three.code
				}
				if code == impl.OK {
					continue
				}
				fails(t, code, impl.PunchAll, "mnd", card(3, 3, 3), keys)
				for _, deck := range [][]impl.Card{copies(3, card(9, 8, 3)), copies(3, card(0, 0, 0)), {card(9, 8, 3), card(9, 8, 4), card(3, 3, 3)}} {
					fails(t, code, impl.VerifyAll, "mnd", card(3, 3, 3), deck, keys)
				}
			}
		}
	}
	for place := range impl.MaxDeck {
		keys := slices.Repeat([]string{"7"}, impl.MaxDeck)
		keys[place] = "A"
		fails(t, impl.ErrJam, impl.PunchAll, "n", card(0), keys)
		fails(t, impl.ErrJam, impl.VerifyAll, "n", card(0), copies(impl.MaxDeck, card(512)), keys)
	}
}

func TestVerifyAll(t *testing.T) {
	for _, x := range []struct {
		deck []string
		keys []string
		want string
	}{
		{[]string{"AB12 R", "CD34 R", "CD35 R"}, []string{"AB12", "CD34", "CD34"}, "[0 2] 0"},
		{nil, nil, "[] 0"},
		{[]string{}, []string{}, "[] 0"},
		{[]string{"AB12 Q"}, []string{"AB12"}, "[] 0"},
		{[]string{"AB12 R"}, []string{"AB12"}, "[0] 0"},
		{[]string{"AB12 Q", "CD34 Q"}, []string{"AB12", "CD34"}, "[] 0"},
		{[]string{"AB12 Q", "CD34 Q"}, []string{"CD34", "AB12"}, "[0 1] 0"},
		// A card duplicates from the one before it in the deck, whether that is right or not.
		{[]string{"AB12 Q", "CD34 R"}, []string{"AB12", "CD34"}, "[1] 0"},
		{[]string{"AB12 R", "CD34 Q"}, []string{"AB12", "CD34"}, "[0 1] 0"},
		{[]string{"AB12 Q", "CD34 R", "AB12 Q", "AB12 Q"}, []string{"AB12", "CD34", "AB12", "AB12"}, "[1 2] 0"},
		{[]string{"AB12XQ", "CD34 Q", "XX00XQ"}, []string{"AB12", "CD34", "XX00"}, "[0 2] 0"},
	} {
		var deck []impl.Card
		for _, text := range x.deck {
			deck = append(deck, cardOf(text))
		}
		wrong, code := impl.VerifyAll("mmnnsd", cardOf("ZZ99XQ"), deck, x.keys)
		same(t, fmt.Sprintf("VerifyAll(%q, %q)", x.deck, x.keys), x.want, wrong, code)
	}
}

// TestVerifyAllOfSmallDecks checks which cards are told for decks of up to four cards, by the definition.
func TestVerifyAllOfSmallDecks(t *testing.T) {
	columns := []int64{0, 9, 3}
	for count := range 5 {
		for _, list := range cardsOf(count, columns...) {
			var deck []impl.Card
			var keys []string
			for k, mask := range list.Holes {
				deck, keys = append(deck, card(8, mask, mask&1)), append(keys, []string{"1", "2"}[k%2])
			}
			for _, mask := range columns {
				first := card(0, mask, 0)
				var want []int64
				before := first
				for k, c := range deck {
					if holes, _ := keyed("nds", before.Holes, keys[k]); !slices.Equal(holes, c.Holes) {
						want = append(want, int64(k))
					}
					before = c
				}
				if wrong, code := impl.VerifyAll("nds", first, deck, keys); code != impl.OK || !slices.Equal(wrong, want) {
					t.Errorf("VerifyAll(nds, %v, %v, %q): got %v, %d, want %v", first, deck, keys, wrong, code, want)
				}
			}
		}
	}
}

func TestVerifyAllOfLargeDecks(t *testing.T) {
	seven := slices.Repeat([]string{"7"}, impl.MaxDeck)
	none, one := impl.VerifyAll("n", card(0), copies(impl.MaxDeck, card(512)), seven)
	all, two := impl.VerifyAll("n", card(0), copies(impl.MaxDeck, card(256)), seven)
	same(t, "MaxDeck right cards", "[] 0", none, one)
	same(t, "MaxDeck wrong cards", "[0 1 2 3 4 5 6 7 8 9 10 11 12 13 14 15 16 17 18 19 20 21 22 23 24 25 26 27 28 29 30 31 32 33 34 35 36 37 38 39] 0", all, two)
	for place := range impl.MaxDeck {
		deck := copies(impl.MaxDeck, card(512))
		deck[place] = card(3)
		wrong, code := impl.VerifyAll("n", card(0), deck, seven)
		same(t, "one wrong card", fmt.Sprintf("[%d] 0", place), wrong, code)
	}
}

func TestErrorsOfVerifyAll(t *testing.T) {
	good, first := card(512), card(0)
	keys := func(count int) []string { return slices.Repeat([]string{"7"}, count) }
	for _, count := range []int{0, 1, 2, impl.MaxDeck - 1, impl.MaxDeck} {
		for _, other := range []int{0, 1, 2, 3, impl.MaxDeck - 1, impl.MaxDeck, impl.MaxDeck + 1, 1000} {
			if count == other {
				continue
			}
			fails(t, impl.ErrRange, impl.VerifyAll, "n", first, copies(count, good), keys(other))
			// The number of the texts is told ahead of what they are.
			for _, text := range []string{"a", "A", "77", ""} {
				fails(t, impl.ErrRange, impl.VerifyAll, "n", first, copies(count, good), slices.Repeat([]string{text}, other))
			}
		}
	}
	for _, count := range []int{impl.MaxDeck + 1, 500} {
		fails(t, impl.ErrInvalid, impl.VerifyAll, "n", first, copies(count, good), keys(count))
		fails(t, impl.ErrInvalid, impl.VerifyAll, "n", first, copies(count, good), keys(3))
		fails(t, impl.ErrInvalid, impl.VerifyAll, "nn", first, copies(count, good), keys(count))
	}
	for _, deck := range [][]impl.Card{
		{good, card(512, 0)}, {card(512, 0), good}, {good, {}}, {{}}, {{}, {}}, {good, card(-1)}, {card(4096), good}, append(copies(impl.MaxDeck-1, good), card(0, 0)), append(copies(impl.MaxDeck-1, good), card(-1)),
	} {
		// A list of cards that is no deck is told ahead of widths and of keys, that of the first one included.
		for _, before := range []impl.Card{first, card(0, 0), wide(20, 0)} {
			for _, program := range []string{"n", "nn", "ns"} {
				fails(t, impl.ErrInvalid, impl.VerifyAll, program, before, deck, keys(len(deck)))
				fails(t, impl.ErrInvalid, impl.VerifyAll, program, before, deck, keys(len(deck)+1))
				fails(t, impl.ErrInvalid, impl.VerifyAll, program, before, deck, []string{"a"})
			}
		}
	}
	for _, count := range []int{1, 2, impl.MaxDeck} {
		fails(t, impl.ErrRange, impl.VerifyAll, "n", first, copies(count, card(512, 0)), keys(count))
		fails(t, impl.ErrRange, impl.VerifyAll, "n", card(0, 0), copies(count, good), keys(count))
		fails(t, impl.ErrRange, impl.VerifyAll, "ns", first, copies(count, card(512, 0)), keys(count))
		fails(t, impl.ErrRange, impl.VerifyAll, "ns", card(0, 0), copies(count, good), keys(count))
		fails(t, impl.ErrRange, impl.VerifyAll, "ns", first, copies(count, good), slices.Repeat([]string{"a"}, count))
	}
}

// wrongColumns are columns that cards with so many columns do not have.
func wrongColumns(width int64) []int64 {
	return []int64{-1, -2, width, width + 1, 1 << 32, -1 << 32, math.MinInt64, math.MaxInt64}
}

func TestCorrectColumn(t *testing.T) {
	for _, c := range append(someCards(), cardOf("AB12 Q"), card(3), card(3, 6, 4095)) {
		width := int64(len(c.Holes))
		for b := range 256 {
			rank := rankOfByte(byte(b))
			for column := range width {
				if rank < 0 {
					fails(t, impl.ErrSyntax, impl.CorrectColumn, c, column, byte(b))
					continue
				}
				// The holes that the column had are gone, and the other columns stay.
				want := card(slices.Clone(c.Holes)...)
				want.Holes[column] = alphabet()[rank].holes
				if got, code := impl.CorrectColumn(c, column, byte(b)); code != impl.OK || !impl.SameCard(got, want) {
					t.Errorf("CorrectColumn(%v, %d, %q): got %v, %d, want %v", c, column, byte(b), got, code, want)
				}
			}
			for _, column := range wrongColumns(width) {
				// A wrong column is told ahead of a byte that is no character.
				fails(t, impl.ErrRange, impl.CorrectColumn, c, column, byte(b))
			}
		}
	}
	for _, c := range append(wrongCards(), card(9, 4096), card(-1, 9)) {
		for _, column := range append(wrongColumns(int64(len(c.Holes))), 0, 1) {
			fails(t, impl.ErrInvalid, impl.CorrectColumn, c, column, byte('9'))
			fails(t, impl.ErrInvalid, impl.CorrectColumn, c, column, byte('a'))
		}
	}
}

func TestStrokesSaved(t *testing.T) {
	for _, x := range []struct {
		program string
		cards   int64
		want    int64
	}{
		{"mmnnsd", 100, 200}, {"mmnnsd", 0, 0}, {"mmnnsd", 1, 2}, {"mmnnsd", 1000000, 2000000}, {"m", 1000000, 0}, {"n", 7, 0}, {"s", 7, 7}, {"d", 7, 7}, {"sd", 1000000, 2000000}, {strings.Repeat("s", 20), 1000000, 20000000}, {strings.Repeat("d", 20), 999999, 19999980}, {strings.Repeat("m", 20), 5, 0}, {strings.Repeat("mnsd", 5), 3, 30},
	} {
		n, code := impl.StrokesSaved(x.program, x.cards)
		same(t, fmt.Sprintf("StrokesSaved(%q, %d)", x.program, x.cards), fmt.Sprint(x.want, " 0"), n, code)
	}
	for _, program := range allPrograms(4) {
		if n, code := impl.StrokesSaved(program, 3); code != impl.OK || n != 3*int64(len(program)-wants(program)) {
			t.Errorf("StrokesSaved(%q, 3): got %d, %d", program, n, code)
		}
	}
	for _, cards := range []int64{-1, 1000001, -1000000, 1 << 32, 1 << 60, math.MinInt64, math.MaxInt64} {
		for _, program := range somePrograms() {
			fails(t, impl.ErrRange, impl.StrokesSaved, program, cards)
		}
	}
	for _, program := range wrongPrograms() {
		for _, cards := range []int64{0, 1, 1000000, -1, 1000001, math.MinInt64} {
			fails(t, impl.ErrInvalid, impl.StrokesSaved, program, cards)
		}
	}
}

var (
	runsOfLetters = regexp.MustCompile(`m+|n+|s+|d+`)
	textsOfRuns   = regexp.MustCompile(`^[mnsd](0|[1-9][0-9]*)( [mnsd](0|[1-9][0-9]*))*$`)
)

// runs returns the text of a program card.
func runs(program string) string {
	var words []string
	for _, run := range runsOfLetters.FindAllString(program, -1) {
		words = append(words, fmt.Sprint(run[:1], len(run)))
	}
	return strings.Join(words, " ")
}

// readRuns returns the program card with a text, and whether there is one.
func readRuns(s string) (string, bool) {
	if !textsOfRuns.MatchString(s) {
		return "", false
	}
	program, last := "", byte(0)
	for _, word := range strings.Split(s, " ") {
		length, err := strconv.Atoi(word[1:])
		if err != nil || length < 1 || length > 20-len(program) || word[0] == last {
			return "", false
		}
		program, last = program+strings.Repeat(word[:1], length), word[0]
	}
	return program, true
}

// wrongRuns are texts of no program card.
func wrongRuns() []string {
	list := []string{
		"", " ", "  ", "m", "n", "s", "d", "1", "12", "m0", "x3", "m1 m2", "m21", "m1  s2", "m20 s1", "m19 s2", "m10 s11", "s20 d20", "m1 s20", "m1 m1", "d2 d3", "m1 s1 s1", "m1 s1 s1 d1", "n1 n1 s1", "m10 m10", "m10 m9", "m20 m1",
		"m01", "m001", "m00", "m010", "m-1", "m+1", "m-0", "m+2", "m 1", "m1 ", " m1", "m1 s1 ", " m1 s1", "m1\n", "\nm1", "m1\ts1", "m1\ns1", "m1,s1", "m1s1", "mm", "m1m", "1m", "1m 2s", "mm1", "m1.0", "m1e0", "m0x1", "m1_0", "m1 s", "m1 1", "s m1", "m1 s0", "m0 s1", "m1 s0 m1", "m1 x1", "x1 m1", "m1 S1", "M1", "S1", "m\u0661", "m\uff11", "\xff1", "m\xff", "é1", "\u016d1", "\ufffd1", "m1\x00", "m\x001", "m1 \xff1",
		"m1000000000000000000", "m9223372036854775807", "m9223372036854775808", "m18446744073709551617", "m1844674407370955162", "m4294967297", "m999999999999999999", "m999999999999999999 m999999999999999999", "m-9223372036854775808", "m1 s999999999999999999",
		"mmnnsd", "m2 n2 s1 d1 ", "m2 n2 s1 d1\n", " m2 n2 s1 d1", "m2  n2 s1 d1", "m2 n2 s1 d01", "m2 n2 s1 d15 m1", "m2 n2 s1 d16", "m1 m1 n2 s1 d1", "m2 n2 s1 d0",
	}
	for _, letter := range []string{"m", "n", "s", "d"} {
		list = append(list, letter+"0", letter+"21", letter+"1"+strings.Repeat("0", 39), letter+strings.Repeat("9", 40), letter+strings.Repeat("0", 39)+"1", letter+strings.Repeat("9", 19), letter+"1 "+letter+"1", "m20 n20 s20 "+letter+"20")
	}
	return append(list, strings.Repeat("m1 s1 ", 10)+"m1", strings.Repeat("m1 s1 ", 10), strings.Repeat("m1 s1 ", 2000)+"m1", strings.Repeat(" ", 5000), "m"+strings.Repeat("9", 5000), "m"+strings.Repeat("0", 5000)+"1", strings.Repeat("m", 5000))
}

func TestProgramRuns(t *testing.T) {
	for _, x := range [][2]string{
		{"mmnnsd", "m2 n2 s1 d1"}, {"m", "m1"}, {"d", "d1"}, {"mnsd", "m1 n1 s1 d1"}, {"msm", "m1 s1 m1"}, {"mmsmm", "m2 s1 m2"}, {"nnnnnnnnnm", "n9 m1"}, {"nnnnnnnnnnm", "n10 m1"}, {"sddddddddd", "s1 d9"}, {strings.Repeat("s", 20), "s20"}, {strings.Repeat("m", 10) + strings.Repeat("n", 10), "m10 n10"}, {strings.Repeat("d", 19) + "m", "d19 m1"},
		{"mnmnmnmnmnmnmnmnmnmn", "m1 n1 m1 n1 m1 n1 m1 n1 m1 n1 m1 n1 m1 n1 m1 n1 m1 n1 m1 n1"},
	} {
		same(t, fmt.Sprintf("ProgramRuns(%q)", x[0]), x[1], impl.ProgramRuns(x[0]))
		program, ok := impl.ReadRuns(x[1])
		same(t, fmt.Sprintf("ReadRuns(%q)", x[1]), x[0]+" true", program, ok)
	}
	for _, program := range append(somePrograms(), allPrograms(6)...) {
		s := impl.ProgramRuns(program)
		if s != runs(program) {
			t.Errorf("ProgramRuns(%q): got %q, want %q", program, s, runs(program))
		}
		if back, ok := impl.ReadRuns(s); !ok || back != program {
			t.Errorf("ReadRuns(%q), the text of %q: got %q, %v", s, program, back, ok)
		}
	}
	for _, letter := range []string{"m", "n", "s", "d"} {
		for length := 1; length <= impl.MaxColumns; length++ {
			same(t, "a program card of one letter", letter+strconv.Itoa(length), impl.ProgramRuns(strings.Repeat(letter, length)))
		}
	}
	for _, program := range wrongPrograms() {
		if s := impl.ProgramRuns(program); s != "" {
			t.Errorf("ProgramRuns(%q), which is no program card: got %q", program, s)
		}
	}
}

func TestReadRuns(t *testing.T) {
	for _, s := range wrongRuns() {
		if program, ok := impl.ReadRuns(s); ok || program != "" {
			t.Errorf("ReadRuns(%q): got %q, %v", s, program, ok)
		}
	}
	for _, letter := range []string{"m", "n", "s", "d", "x", "M", " ", "", "\xff"} {
		for length := -30; length <= 130; length++ {
			for _, s := range []string{letter + strconv.Itoa(length), "m1 " + letter + strconv.Itoa(length), letter + strconv.Itoa(length) + " d7", letter + strconv.Itoa(length) + " s3 " + letter + "2"} {
				checkRuns(t, s)
			}
		}
	}
}

// checkRuns holds the program card of a text against what the oracle reads, and reports whether there is one.
func checkRuns(t *testing.T, s string) bool {
	t.Helper()
	want, known := readRuns(s)
	program, ok := impl.ReadRuns(s)
	if ok != known || program != want {
		t.Errorf("ReadRuns(%q): got %q, %v, want %q, %v", s, program, ok, want, known)
	}
	if ok && (!impl.ValidProgram(program) || impl.ProgramRuns(program) != s) {
		t.Errorf("ProgramRuns(%q), which is read from %q: got %q", program, s, impl.ProgramRuns(program))
	}
	return ok
}

// TestReadRunsOfChangedTexts reads all texts that differ from the text of a program card in one byte.
func TestReadRunsOfChangedTexts(t *testing.T) {
	accepted := 0
	for _, whole := range []string{"m2 n2 s1 d1", "s20", "m10 d10", "d9 m1 d1 s2", "n1"} {
		for place := range len(whole) + 1 {
			changed := []string{whole[:place], whole[place:]}
			for _, b := range []byte("0123456789mnsdxM -+\n\t\x00\xff") {
				changed = append(changed, whole[:place]+string([]byte{b})+whole[place:])
				if place < len(whole) {
					changed = append(changed, whole[:place]+whole[place+1:], whole[:place]+string([]byte{b})+whole[place+1:])
				}
			}
			for _, s := range changed {
				if checkRuns(t, s) {
					accepted++
				}
			}
		}
	}
	if accepted < 100 {
		t.Errorf("only %d changed texts are those of program cards", accepted)
	}
}
