package tests

import (
	"fmt"
	"math"
	"regexp"
	"slices"
	"strconv"
	"strings"
	"testing"

	"loop.example/g01012/impl"
)

// item returns an item with the columns from..to-1.
func item(name string, kind, from, to int64) impl.Item {
	return impl.Item{Name: name, Kind: kind, Field: impl.Field{From: from, To: to}}
}

// layout returns a layout.
func layout(width int64, items ...impl.Item) impl.Layout {
	return impl.Layout{Width: width, Items: items}
}

// shop is the layout of the document's example.
func shop() impl.Layout {
	return layout(7, item("who", impl.ItemText, 0, 3), item("qty", impl.ItemNumber, 3, 6))
}

// narrow returns items of one column each, the last columns first.
func narrow(count int) []impl.Item {
	var items []impl.Item
	for k := range int64(count) {
		items = append(items, item("i"+strconv.FormatInt(k, 10), k%2+1, 19-k, 20-k))
	}
	return items
}

// someLayouts are valid layouts, with those at the limits.
func someLayouts() []impl.Layout {
	return []impl.Layout{
		shop(), layout(1), layout(impl.MaxColumns), layout(3, []impl.Item{}...),
		layout(1, item("a", impl.ItemText, 0, 1)), layout(1, item("a", impl.ItemNumber, 0, 1)),
		layout(20, item("abcdefghijkl", impl.ItemText, 0, 20)), layout(12, item("n", impl.ItemNumber, 0, 12)),
		layout(20, item("n", impl.ItemNumber, 8, 20), item("t", impl.ItemText, 0, 8)),
		layout(7, item("qty", impl.ItemText, 4, 7), item("who", impl.ItemNumber, 0, 2), item("a", impl.ItemText, 3, 4)),
		layout(20, narrow(11)...), layout(20, narrow(impl.MaxItemsOf)...),
	}
}

// goodItems are items that are valid for cards with MaxColumns columns.
func goodItems() []impl.Item {
	return []impl.Item{
		item("x", impl.ItemText, 6, 7), item("x", impl.ItemNumber, 0, 1), item("x", impl.ItemText, 0, 20), item("x", impl.ItemNumber, 0, 12), item("x", impl.ItemNumber, 8, 20),
		item("x", impl.ItemText, 0, 13), item("abcdefghijkl", impl.ItemText, 19, 20), item("who", impl.ItemText, 6, 7), item("qty", impl.ItemNumber, 6, 7), item("i0", impl.ItemText, 0, 1), item("a-1", impl.ItemText, 1, 3),
	}
}

// wrongItems are items that are not valid for cards with so many columns.
func wrongItems(width int64) []impl.Item {
	list := []impl.Item{{}, item("n", impl.ItemNumber, 0, 13), item("n", impl.ItemNumber, 7, 20), item("n", impl.ItemNumber, 0, 20)}
	for _, name := range []string{"", "A", "3a", "-", "a b", "a\n", " a", "\xff", "é", "abcdefghijklm"} {
		list = append(list, item(name, impl.ItemText, 0, 1), item(name, impl.ItemNumber, 0, 1))
	}
	for _, kind := range []int64{0, 3, -1, 1<<32 + 1, math.MinInt64, math.MaxInt64} {
		list = append(list, item("a", kind, 0, 1), item("who", kind, 0, 1), item("i0", kind, 0, 1))
	}
	for _, f := range wrongFields(width) {
		list = append(list, item("a", impl.ItemText, f.From, f.To), item("a", impl.ItemNumber, f.From, f.To), item("qty", impl.ItemNumber, f.From, f.To))
	}
	return list
}

// wrongLayouts are layouts that are not valid.
func wrongLayouts() []impl.Layout {
	who, qty := item("who", impl.ItemText, 0, 3), item("qty", impl.ItemNumber, 3, 6)
	list := []impl.Layout{
		{}, layout(-1), layout(impl.MaxColumns + 1), layout(math.MinInt64), layout(math.MaxInt64), layout(0, who, qty), layout(21, who, qty), layout(5, who, qty),
		layout(7, who, qty, item("who", impl.ItemText, 6, 7)), layout(7, who, item("who", impl.ItemNumber, 3, 6)), layout(9, who, qty, item("qty", impl.ItemNumber, 7, 8)),
		layout(7, who, item("qty", impl.ItemNumber, 2, 6)), layout(7, item("qty", impl.ItemNumber, 2, 6), who), layout(7, who, item("a", impl.ItemText, 1, 2)), layout(7, item("a", impl.ItemText, 1, 2), who), layout(7, who, item("a", impl.ItemText, 0, 3)), layout(7, who, qty, item("a", impl.ItemText, 0, 7)),
		layout(20, narrow(13)...), layout(20, narrow(20)...), layout(20, slices.Repeat(narrow(12), 2000)...),
	}
	for _, x := range wrongItems(7) {
		list = append(list, layout(7, x), layout(7, x, qty), layout(7, item("b", impl.ItemText, 4, 5), x))
	}
	return list
}

func TestLimitsOfLayouts(t *testing.T) {
	same(t, "limits", "1 2 12", impl.ItemText, impl.ItemNumber, impl.MaxItemsOf)
}

func TestValidLayout(t *testing.T) {
	for _, l := range someLayouts() {
		if !impl.ValidLayout(l) {
			t.Errorf("ValidLayout(%v): false", l)
		}
	}
	for _, l := range wrongLayouts() {
		if impl.ValidLayout(l) {
			t.Errorf("ValidLayout(%v): true", l)
		}
	}
	for width := int64(-2); width < 30; width++ {
		want := 1 <= width && width <= 20
		if impl.ValidLayout(layout(width)) != want || impl.ValidLayout(layout(width, item("a", impl.ItemText, 0, 1))) != want {
			t.Errorf("ValidLayout of %d columns: not %v", width, want)
		}
		if got, want := impl.ValidLayout(layout(width, item("a", impl.ItemText, 0, width))), want; got != want {
			t.Errorf("ValidLayout with an item of all %d columns: %v", width, got)
		}
		if got, want := impl.ValidLayout(layout(width, item("a", impl.ItemNumber, 0, width))), 1 <= width && width <= 12; got != want {
			t.Errorf("ValidLayout with a number of %d columns: %v", width, got)
		}
	}
	for count := range 21 {
		if got, want := impl.ValidLayout(layout(20, narrow(count)...)), count <= 12; got != want {
			t.Errorf("ValidLayout with %d items: %v", count, got)
		}
	}
	// Each two of twelve items must have different names, and other columns.
	for a := range 12 {
		for b := range a {
			items := narrow(12)
			items[a].Name = items[b].Name
			if impl.ValidLayout(layout(20, items...)) {
				t.Errorf("ValidLayout where the names of %d and %d are equal: true", b, a)
			}
			items = narrow(12)
			items[a].Field = items[b].Field
			if impl.ValidLayout(layout(20, items...)) {
				t.Errorf("ValidLayout where the columns of %d and %d are equal: true", b, a)
			}
		}
	}
}

// smallLayouts are layouts of two items with all fields around three columns; many of them are not valid.
func smallLayouts() []impl.Layout {
	var items []impl.Item
	for from := int64(-1); from <= 4; from++ {
		for to := int64(-1); to <= 4; to++ {
			items = append(items, item("a", impl.ItemText, from, to))
		}
	}
	var list []impl.Layout
	for _, one := range items {
		for _, two := range items {
			two.Name, two.Kind = "b", impl.ItemNumber
			list = append(list, layout(3, one, two))
		}
	}
	return list
}

// owners returns for each column how many items have it, and whether all items have columns of the card only.
func owners(l impl.Layout) ([]int, bool) {
	count, inside := make([]int, l.Width), true
	for _, x := range l.Items {
		inside = inside && x.Field.From < x.Field.To
		for column := x.Field.From; column < x.Field.To; column++ {
			if column < 0 || column >= l.Width {
				inside = false
			} else {
				count[column]++
			}
		}
	}
	return count, inside
}

func TestSmallLayouts(t *testing.T) {
	valid := 0
	for _, l := range smallLayouts() {
		count, inside := owners(l)
		want := inside && slices.Max(count) <= 1
		if got := impl.ValidLayout(l); got != want {
			t.Errorf("ValidLayout(%v): %v", l, got)
		}
		if !want {
			fails(t, impl.ErrInvalid, impl.FreeColumns, l)
			continue
		}
		valid++
		var columns []int64
		for column, n := range count {
			if n == 0 {
				columns = append(columns, int64(column))
			}
		}
		if free, code := impl.FreeColumns(l); code != impl.OK || !slices.Equal(free, columns) {
			t.Errorf("FreeColumns(%v): got %v, %d, want %v", l, free, code, columns)
		}
	}
	same(t, "valid ones", "10", valid)
}

func TestFreeColumns(t *testing.T) {
	for _, x := range []struct {
		layout impl.Layout
		want   string
	}{
		{shop(), "[6] 0"},
		{layout(1), "[0] 0"},
		{layout(3), "[0 1 2] 0"},
		{layout(20, item("a", impl.ItemText, 0, 20)), "[] 0"},
		{layout(20, narrow(12)...), "[0 1 2 3 4 5 6 7] 0"},
		{layout(9, item("b", impl.ItemNumber, 6, 8), item("a", impl.ItemText, 1, 4)), "[0 4 5 8] 0"},
	} {
		free, code := impl.FreeColumns(x.layout)
		same(t, fmt.Sprintf("FreeColumns(%v)", x.layout), x.want, free, code)
	}
	for _, l := range wrongLayouts() {
		fails(t, impl.ErrInvalid, impl.FreeColumns, l)
	}
}

func TestSameLayout(t *testing.T) {
	list := slices.Concat(someLayouts(), wrongLayouts()[:20], []impl.Layout{
		layout(8, shop().Items...), layout(7, shop().Items[0]), layout(7, shop().Items[1], shop().Items[0]), layout(7, append(shop().Items, item("a", 0, 0, 0))...),
		layout(7, item("who", impl.ItemText, 0, 3), item("qty", impl.ItemText, 3, 6)), layout(7, item("who", impl.ItemText, 0, 3), item("qtz", impl.ItemNumber, 3, 6)),
		layout(7, item("who", impl.ItemText, 0, 3), item("qty", impl.ItemNumber, 4, 6)), layout(7, item("who", impl.ItemText, 0, 3), item("qty", impl.ItemNumber, 3, 7)), layout(7, item("Who", impl.ItemText, 0, 3), item("qty", impl.ItemNumber, 3, 6)),
	})
	for i, a := range list {
		for k, b := range list {
			other := impl.Layout{Width: b.Width, Items: slices.Clone(b.Items)}
			if got := impl.SameLayout(a, other); got != (i == k) {
				t.Errorf("SameLayout(%v, %v): %v", a, b, got)
			}
		}
	}
}

func TestItemNamed(t *testing.T) {
	for _, l := range someLayouts() {
		for want, x := range l.Items {
			place, code := impl.ItemNamed(l, x.Name)
			same(t, fmt.Sprintf("ItemNamed(%v, %q)", l, x.Name), fmt.Sprint(want, " 0"), place, code)
		}
		for _, name := range []string{"", "day", "wh", "whoo", "Who", "who ", "i12", "\xff", strings.Repeat("a", 100)} {
			fails(t, impl.ErrNotFound, impl.ItemNamed, l, name)
		}
	}
	for _, l := range wrongLayouts() {
		for _, name := range []string{"who", "qty", "a", "i0", "", "day"} {
			fails(t, impl.ErrInvalid, impl.ItemNamed, l, name)
		}
	}
}

func TestAddItem(t *testing.T) {
	free := item("x", impl.ItemText, 6, 7)
	for _, x := range []struct {
		layout impl.Layout
		item   impl.Item
	}{
		{shop(), free}, {shop(), item("x", impl.ItemNumber, 6, 7)}, {layout(1), item("a", impl.ItemText, 0, 1)}, {layout(20), item("abcdefghijkl", impl.ItemText, 0, 20)}, {layout(20), item("n", impl.ItemNumber, 8, 20)},
		{layout(20, narrow(11)...), item("x", impl.ItemText, 0, 9)}, {layout(9, item("b", impl.ItemNumber, 4, 6)), item("a", impl.ItemText, 0, 4)}, {layout(9, item("b", impl.ItemNumber, 4, 6)), item("a", impl.ItemText, 6, 9)},
	} {
		want := layout(x.layout.Width, append(slices.Clone(x.layout.Items), x.item)...)
		if l, code := impl.AddItem(x.layout, x.item); code != impl.OK || !impl.SameLayout(l, want) || !impl.ValidLayout(l) {
			t.Errorf("AddItem(%v, %v): got %v, %d", x.layout, x.item, l, code)
		}
	}
	// From no item on to MaxItemsOf.
	l, code := layout(20), int64(impl.OK)
	for k, x := range narrow(13) {
		if k == impl.MaxItemsOf {
			fails(t, impl.ErrFull, impl.AddItem, l, x)
			break
		}
		if l, code = impl.AddItem(l, x); code != impl.OK || !impl.SameLayout(l, layout(20, narrow(k+1)...)) {
			t.Errorf("AddItem of the item %d: got %v, %d", k, l, code)
		}
	}
}

func TestErrorsOfAddItem(t *testing.T) {
	for _, l := range wrongLayouts() {
		for _, x := range append(wrongItems(7), item("who", impl.ItemText, 0, 3), item("x", impl.ItemText, 0, 1)) {
			fails(t, impl.ErrInvalid, impl.AddItem, l, x)
		}
	}
	full := layout(20, narrow(impl.MaxItemsOf)...)
	// An item that is not valid is told ahead of its name, its columns and the greatest number.
	for _, x := range wrongItems(7) {
		fails(t, impl.ErrRange, impl.AddItem, shop(), x)
	}
	for _, x := range append(wrongItems(20), item("i0", 0, 0, 1), item("i0", 3, 19, 20), item("I0", impl.ItemText, 19, 20), item("i0", impl.ItemText, 19, 21)) {
		fails(t, impl.ErrRange, impl.AddItem, full, x)
	}
	// The layout's width counts.
	fails(t, impl.ErrRange, impl.AddItem, shop(), item("x", impl.ItemText, 6, 8))
	fails(t, impl.ErrRange, impl.AddItem, shop(), item("who", impl.ItemText, 0, 8))
	// A name that exists is told ahead of columns that are taken, and of the greatest number.
	for _, f := range []impl.Field{{From: 6, To: 7}, {From: 0, To: 3}, {From: 2, To: 4}} {
		fails(t, impl.ErrExists, impl.AddItem, shop(), item("who", impl.ItemText, f.From, f.To))
		fails(t, impl.ErrExists, impl.AddItem, shop(), item("qty", impl.ItemText, f.From, f.To))
	}
	fails(t, impl.ErrExists, impl.AddItem, full, item("i0", impl.ItemText, 0, 1))
	fails(t, impl.ErrExists, impl.AddItem, full, item("i11", impl.ItemText, 0, 20))
	// Columns that are taken are told ahead of the greatest number.
	for _, f := range []impl.Field{{From: 0, To: 1}, {From: 2, To: 3}, {From: 3, To: 4}, {From: 5, To: 6}, {From: 5, To: 7}, {From: 0, To: 7}, {From: 1, To: 5}} {
		fails(t, impl.ErrClash, impl.AddItem, shop(), item("x", impl.ItemText, f.From, f.To))
	}
	for column := int64(8); column < 20; column++ {
		fails(t, impl.ErrClash, impl.AddItem, full, item("x", impl.ItemText, column, column+1))
	}
	fails(t, impl.ErrClash, impl.AddItem, full, item("x", impl.ItemText, 0, 9))
	fails(t, impl.ErrFull, impl.AddItem, full, item("x", impl.ItemText, 0, 8))
	fails(t, impl.ErrFull, impl.AddItem, full, item("x", impl.ItemNumber, 7, 8))
}

// someValues are texts of which some can be punched as text, some as numbers, and some not at all.
func someValues() []string {
	list := []string{
		"", " ", "  ", "    ", "A", "AB", "ABC", "ABCD", " A", "  A", "A B", "A  B", " A B", "A ", "AB ", "ABC ", "A   ", " A ", "-", "&", "/", "&-/", "A-1", "--", "-A", "1-", "0A",
		"a", "Aa", "aA", "AB a", "ab ", "ABCDEFa", "é", "A\n", "\n", "\t", "A\t", "\x00", "\xff", "\u0141", "A\u00a0", "A_B", "A.B", "+",
		"0", "7", "10", "12", "99", "100", "999", "1000", "305", "-0", "-1", "-7", "-12", "-100", "-999", "-1000", "00", "07", "007", "-07", "-00", "+7", "+0", "--7", "7-", "7 ", " 7", "- 7", "1 2", "7\n", "-7 ",
		"99999999999", "100000000000", "999999999999", "-999999999999", "1000000000000", "-1000000000000", "9999999999999", "999999999999999999", "-999999999999999999", "1000000000000000000", "9223372036854775807", "9223372036854775808", "-9223372036854775808", "18446744073709551617", "099999999999",
		"1e3", "0x1", "1.0", "1,000", "1_0", "\uff11", "\u0661", "0b1", "NaN",
	}
	for length := 10; length <= 21; length++ {
		list = append(list, strings.Repeat("Z", length), strings.Repeat("Z", length-1)+" ", strings.Repeat(" ", length-1)+"Z", strings.Repeat(" ", length), strings.Repeat("Z", length-1)+"z", strings.Repeat("9", length))
	}
	return append(list, strings.Repeat("Z", 5000), strings.Repeat(" ", 5000), strings.Repeat("9", 5000), strings.Repeat("0", 5000))
}

var (
	decimals = regexp.MustCompile(`^(0|-?[1-9][0-9]{0,11})$`)
	wordings = regexp.MustCompile(`^([ &/0-9A-Z-]*[&/0-9A-Z-])?$`)
)

// punched returns the columns of a value in a field with so many columns, and the error of punching it.
func punched(kind int64, room int, value string) ([]int64, int64) {
	known := wordings
	if kind == impl.ItemNumber {
		known = decimals
	}
	if !known.MatchString(value) {
		return nil, impl.ErrSyntax
	}
	if kind == impl.ItemNumber {
		n, _ := strconv.ParseInt(value, 10, 64)
		if holes := numberHoles(n, room); len(holes) == room {
			return holes, impl.OK
		}
		return nil, impl.ErrFull
	}
	if len(value) > room {
		return nil, impl.ErrFull
	}
	return cardOf(value + strings.Repeat(" ", room-len(value))).Holes, impl.OK
}

// TestValuesInAllFields checks P4 for each of someValues, in fields of all lengths and of both kinds.
func TestValuesInAllFields(t *testing.T) {
	for _, kind := range []int64{impl.ItemText, impl.ItemNumber} {
		for room := range int64(21 - 8*(kind-1)) {
			if room == 0 {
				continue
			}
			for _, value := range someValues() {
				checkValue(t, kind, layout(room, item("a", kind, 0, room)), value)
				if room < 19 {
					checkValue(t, kind, layout(room+2, item("a", kind, 1, room+1)), value)
				}
			}
		}
	}
}

func checkValue(t *testing.T, kind int64, l impl.Layout, value string) {
	t.Helper()
	f := l.Items[0].Field
	worn := wide(int(l.Width), impl.AllRows)
	holes, code := punched(kind, int(f.To-f.From), value)
	if code != impl.OK {
		fails(t, code, impl.CardFor, l, []string{value})
		fails(t, code, impl.ChangeItem, l, worn, "a", value)
		return
	}
	c, one := impl.CardFor(l, []string{value})
	want := card(slices.Concat(make([]int64, f.From), holes, make([]int64, l.Width-f.To))...)
	if one != impl.OK || !impl.SameCard(c, want) {
		t.Errorf("CardFor(%v, %q): got %v, %d, want %v", l, value, c, one, want)
		return
	}
	// The columns around the field stay as they are.
	d, two := impl.ChangeItem(l, worn, "a", value)
	want = card(slices.Concat(worn.Holes[:f.From], holes, worn.Holes[f.To:])...)
	if two != impl.OK || !impl.SameCard(d, want) {
		t.Errorf("ChangeItem(%v, %q): got %v, %d, want %v", l, value, d, two, want)
		return
	}
	for _, c := range []impl.Card{c, d} {
		values, code := impl.RecordOf(l, c)
		if code != impl.OK || !slices.Equal(values, []string{value}) {
			t.Errorf("RecordOf(%v, %v): got %q, %d, want %q", l, c, values, code, value)
		}
		count, code := impl.CountValue(l, []impl.Card{c, c}, "a", value)
		if code != impl.OK || count != 2 {
			t.Errorf("CountValue(%v, %v, %q): got %d, %d", l, c, value, count, code)
		}
	}
}

// TestRecordOfCardFor checks P4 for layouts of several items: the values are those that are told, and no other columns have holes.
func TestRecordOfCardFor(t *testing.T) {
	for _, l := range someLayouts() {
		for turn := range 40 {
			var values []string
			want := wide(int(l.Width), 0)
			for k, x := range l.Items {
				value, holes := pickValue(x, 17*turn+31*k)
				values = append(values, value)
				copy(want.Holes[x.Field.From:], holes)
			}
			c, code := impl.CardFor(l, values)
			if code != impl.OK || !impl.SameCard(c, want) {
				t.Errorf("CardFor(%v, %q): got %v, %d, want %v", l, values, c, code, want)
				continue
			}
			if got, code := impl.RecordOf(l, c); code != impl.OK || !slices.Equal(got, values) {
				t.Errorf("RecordOf(%v, %v): got %q, %d, want %q", l, c, got, code, values)
			}
			checkChanges(t, l, c, values, turn)
		}
	}
}

// pickValue returns a value that can be punched for an item, and its columns: the first one of someValues from a place on.
func pickValue(x impl.Item, place int) (string, []int64) {
	all := someValues()
	for {
		value := all[place%len(all)]
		if holes, code := punched(x.Kind, int(x.Field.To-x.Field.From), value); code == impl.OK {
			return value, holes
		}
		place++
	}
}

// checkChanges checks P4: ChangeItem changes the value of one item only.
func checkChanges(t *testing.T, l impl.Layout, c impl.Card, values []string, turn int) {
	t.Helper()
	for k, x := range l.Items {
		value, holes := pickValue(x, 7*turn+3)
		want := slices.Clone(values)
		want[k] = value
		d, code := impl.ChangeItem(l, c, x.Name, value)
		whole := card(slices.Concat(c.Holes[:x.Field.From], holes, c.Holes[x.Field.To:])...)
		if code != impl.OK || !impl.SameCard(d, whole) {
			t.Errorf("ChangeItem(%v, %v, %q, %q): got %v, %d", l, c, x.Name, value, d, code)
			continue
		}
		if got, code := impl.RecordOf(l, d); code != impl.OK || !slices.Equal(got, want) {
			t.Errorf("RecordOf of ChangeItem(%v, %v, %q, %q): got %q, %d", l, c, x.Name, value, got, code)
		}
	}
}

func TestCardFor(t *testing.T) {
	c, code := impl.CardFor(shop(), []string{"AB", "-12"})
	same(t, "a card", "{[9 17 0 4 8 18 0]} 0", c, code)
	c, code = impl.CardFor(shop(), []string{"", "0"})
	same(t, "an empty text", "{[0 0 0 4 4 4 0]} 0", c, code)
	c, code = impl.CardFor(shop(), []string{" 0", "-999"})
	same(t, "a blank in front", "{[0 4 0 2048 2048 2050 0]} 0", c, code)
	for _, values := range [][]string{nil, {}} {
		c, code = impl.CardFor(layout(3), values)
		same(t, "no items", "{[0 0 0]} 0", c, code)
	}
	// The order of the values is that of the items, not that of the columns.
	c, code = impl.CardFor(layout(4, item("b", impl.ItemText, 2, 3), item("a", impl.ItemText, 1, 2)), []string{"A", "Z"})
	same(t, "items from right to left", "{[0 2052 9 0]} 0", c, code)
}

func TestErrorsOfCardFor(t *testing.T) {
	for _, l := range wrongLayouts() {
		for _, values := range [][]string{nil, {"A"}, {"AB", "1"}, {"a", "1"}, slices.Repeat([]string{"1"}, len(l.Items))} {
			fails(t, impl.ErrInvalid, impl.CardFor, l, values)
		}
	}
	for _, l := range someLayouts() {
		for count := range 30 {
			// The number of the values is told ahead of values that cannot be punched.
			if count != len(l.Items) {
				fails(t, impl.ErrRange, impl.CardFor, l, slices.Repeat([]string{"1"}, count))
				fails(t, impl.ErrRange, impl.CardFor, l, slices.Repeat([]string{"a"}, count))
				fails(t, impl.ErrRange, impl.CardFor, l, slices.Repeat([]string{strings.Repeat("9", 50)}, count))
			}
		}
	}
	// The error of the first value that cannot be punched, whatever those behind it have.
	for _, first := range someValues() {
		for _, second := range someValues() {
			_, code := punched(impl.ItemText, 3, first)
			if code == impl.OK {
				_, code = punched(impl.ItemNumber, 3, second)
			}
			if code != impl.OK {
				fails(t, code, impl.CardFor, shop(), []string{first, second})
			}
		}
	}
	fails(t, impl.ErrFull, impl.CardFor, shop(), []string{"ABCD", "01"})
	fails(t, impl.ErrSyntax, impl.CardFor, shop(), []string{"ABCD ", "1000"})
	fails(t, impl.ErrSyntax, impl.CardFor, shop(), []string{"abcd", "1"})
	fails(t, impl.ErrSyntax, impl.CardFor, shop(), []string{"ABC", "1000000000000"})
	fails(t, impl.ErrFull, impl.CardFor, shop(), []string{"ABC", "999999999999"})
}

func TestRecordOf(t *testing.T) {
	for _, x := range []struct {
		holes []int64
		want  string
	}{
		{cardOf("AB 012 ").Holes, "AB|12 0"},
		{cardOf("ABC012X").Holes, "ABC|12 0"},
		{cardOf("   012 ").Holes, "|12 0"},
		{cardOf(" A 012 ").Holes, " A|12 0"},
		{cardOf("  A012 ").Holes, "  A|12 0"},
		{cardOf("A B012 ").Holes, "A B|12 0"},
		{cardOf("A       ").Holes[:7], "A|0 0"},
		{cardOf("A    7 ").Holes, "A|7 0"},
		{cardOf("A  007 ").Holes, "A|7 0"},
		{cardOf("A  07  ").Holes, " 8"},
		{cardOf("A  00P ").Holes, "A|-7 0"},
		{cardOf("A    P ").Holes, "A|-7 0"},
		{[]int64{0, 0, 0, 0, 0, 2, 0}, " 8"},
		{[]int64{0, 0, 0, 4, 4, 6, 0}, " 8"},
		{[]int64{0, 0, 0, 8, 8, 6, 0}, "|-110 0"},
		{[]int64{0, 0, 0, 8, 6, 8, 0}, " 8"},
		{[]int64{2, 2, 2, 4, 4, 4, 0}, "---|0 0"},
		{[]int64{6, 0, 0, 4, 4, 4, 0}, " 8"},
		{[]int64{0, 3, 0, 4, 4, 4, 0}, " 8"},
		{[]int64{0, 0, 4095, 4, 4, 4, 0}, " 8"},
		{[]int64{0, 0, 0, 3, 4, 4, 0}, " 8"},
		// A column that belongs to no item needs no character.
		{[]int64{9, 0, 0, 4, 4, 4, 4095}, "A|0 0"},
		{cardOf("ABCXYZ ").Holes, " 8"},
	} {
		values, code := impl.RecordOf(shop(), card(x.holes...))
		same(t, fmt.Sprintf("RecordOf(%v)", x.holes), x.want, strings.Join(values, "|"), code)
	}
	for _, c := range []impl.Card{card(0, 0, 0), card(3, 6, 4095)} {
		values, code := impl.RecordOf(layout(3), c)
		same(t, "no items", "[] 0", values, code)
	}
}

// TestValuesOfAllHoles holds the values of fields of one, two and three columns against the table of characters, and all numbers that can be punched.
func TestValuesOfAllHoles(t *testing.T) {
	numbers := readable()
	masks := append([]int64{0, 1, 2, 4, 8, 2048, 6, 10, 9, 12}, illegalMasks()[:3]...)
	var lists [][]int64
	for mask := int64(0); mask <= impl.AllRows; mask++ {
		lists = append(lists, []int64{mask})
	}
	for _, a := range masks {
		for _, b := range masks {
			lists = append(lists, []int64{a, b})
			for _, c := range masks {
				lists = append(lists, []int64{a, b, c})
			}
		}
	}
	for _, holes := range lists {
		n, isNumber := numbers[fmt.Sprint(holes)]
		checkRead(t, impl.ItemNumber, holes, strconv.FormatInt(n, 10), isNumber)
		text, isText := "", true
		for _, mask := range holes {
			rank := rankOfHoles(mask)
			isText = isText && rank >= 0
			text += string(alphabet()[max(rank, 0)].char)
		}
		for strings.HasSuffix(text, " ") {
			text = text[:len(text)-1]
		}
		checkRead(t, impl.ItemText, holes, text, isText)
	}
}

// checkRead checks the value of an item with these holes, between columns without a character.
func checkRead(t *testing.T, kind int64, holes []int64, want string, exists bool) {
	t.Helper()
	to := int64(len(holes)) + 1
	l, c := layout(to+1, item("a", kind, 1, to)), card(slices.Concat([]int64{3}, holes, []int64{3})...)
	if !exists {
		fails(t, impl.ErrFormat, impl.RecordOf, l, c)
	} else if values, code := impl.RecordOf(l, c); code != impl.OK || !slices.Equal(values, []string{want}) {
		t.Errorf("RecordOf(%v, %v): got %q, %d, want %q", l, c, values, code, want)
	}
	for _, value := range []string{want, want + " ", "0" + want, ""} {
		count := int64(0)
		if exists && value == want {
			count = 1
		}
		if got, code := impl.CountValue(l, []impl.Card{c}, "a", value); code != impl.OK || got != count {
			t.Errorf("CountValue(%v, %v, %q): got %d, %d, want %d", l, c, value, got, code, count)
		}
	}
}

// TestErrorsOfCards checks ErrInvalid and ErrRange, in this order, of the functions with a card.
func TestErrorsOfCards(t *testing.T) {
	good := cardOf("AB 012 ")
	wrong := append(wrongCards(), wide(7, -1), wide(7, impl.AllRows+1), card(9, 17, 0, 4, 8, 16, 4096), card(-1, 17, 0, 4, 8, 16, 0))
	for _, l := range wrongLayouts() {
		for _, c := range []impl.Card{{}, card(-1), wide(7, -1), good, card(9), wide(7, 3)} {
			fails(t, impl.ErrInvalid, impl.RecordOf, l, c)
			fails(t, impl.ErrInvalid, impl.ChangeItem, l, c, "who", "A")
			fails(t, impl.ErrInvalid, impl.ChangeItem, l, c, "day", "a")
		}
	}
	for _, c := range wrong {
		for _, l := range someLayouts() {
			fails(t, impl.ErrInvalid, impl.RecordOf, l, c)
			fails(t, impl.ErrInvalid, impl.ChangeItem, l, c, "who", "A")
			fails(t, impl.ErrInvalid, impl.ChangeItem, l, c, "day", "a")
		}
	}
	for width := 1; width <= impl.MaxColumns; width++ {
		for _, l := range someLayouts() {
			if l.Width == int64(width) {
				continue
			}
			// Another width is told ahead of values that do not exist, names and values.
			for _, c := range []impl.Card{wide(width, 0), wide(width, 3), wide(width, 16)} {
				fails(t, impl.ErrRange, impl.RecordOf, l, c)
				fails(t, impl.ErrRange, impl.ChangeItem, l, c, "who", "A")
				fails(t, impl.ErrRange, impl.ChangeItem, l, c, "day", "a")
			}
		}
	}
}

func TestChangeItem(t *testing.T) {
	for _, x := range []struct {
		holes       []int64
		name, value string
		want        []int64
	}{
		{cardOf("AB 012 ").Holes, "qty", "7", cardOf("AB 007 ").Holes},
		{cardOf("AB 012 ").Holes, "qty", "-7", cardOf("AB 00P ").Holes},
		{cardOf("AB 01K ").Holes, "qty", "12", cardOf("AB 012 ").Holes},
		{cardOf("ABC012X").Holes, "who", "Z", cardOf("Z  012X").Holes},
		{cardOf("ABC012X").Holes, "who", "", cardOf("   012X").Holes},
		{cardOf("ABC012X").Holes, "who", " -", cardOf(" - 012X").Holes},
		// What a field had does not matter, nor what the others have.
		{[]int64{3, 3, 3, 4095, 4095, 4095, 6}, "qty", "0", []int64{3, 3, 3, 4, 4, 4, 6}},
		{[]int64{3, 3, 3, 4095, 4095, 4095, 6}, "who", "A", []int64{9, 0, 0, 4095, 4095, 4095, 6}},
	} {
		c, code := impl.ChangeItem(shop(), card(x.holes...), x.name, x.value)
		if code != impl.OK || !slices.Equal(c.Holes, x.want) {
			t.Errorf("ChangeItem(%v, %q, %q): got %v, %d, want %v", x.holes, x.name, x.value, c, code, x.want)
		}
	}
	for _, c := range []impl.Card{cardOf("AB 012 "), wide(7, 3)} {
		for _, name := range []string{"", "day", "Who", "who "} {
			// A name that is not found is told ahead of values.
			for _, value := range []string{"A", "7", "a", "ABCD", "A ", strings.Repeat("9", 30)} {
				fails(t, impl.ErrNotFound, impl.ChangeItem, shop(), c, name, value)
			}
		}
		for _, value := range []string{"ABCD", "    A"} {
			fails(t, impl.ErrFull, impl.ChangeItem, shop(), c, "who", value)
		}
		for _, value := range []string{"a", "ABCd", "A ", "ABC ", " ", "    "} {
			fails(t, impl.ErrSyntax, impl.ChangeItem, shop(), c, "who", value)
		}
		for _, value := range []string{"1000", "-1000", "999999999999"} {
			fails(t, impl.ErrFull, impl.ChangeItem, shop(), c, "qty", value)
		}
		for _, value := range []string{"", "A", "01", "-0", "-", "+1", " 1", "1 ", "1000000000000", "-1000000000000"} {
			fails(t, impl.ErrSyntax, impl.ChangeItem, shop(), c, "qty", value)
		}
	}
}

// wage is a layout with a number of twelve columns, and a text behind it.
func wage() impl.Layout {
	return layout(15, item("pay", impl.ItemNumber, 1, 13), item("who", impl.ItemText, 13, 15))
}

// wages are cards with these numbers; the text of each of them is the same.
func wages(who string, numbers ...string) []impl.Card {
	var deck []impl.Card
	for _, n := range numbers {
		c, _ := impl.CardFor(wage(), []string{n, who})
		deck = append(deck, c)
	}
	return deck
}

func TestItemTotal(t *testing.T) {
	for _, x := range []struct {
		deck []impl.Card
		want string
	}{
		{nil, "0 0"},
		{[]impl.Card{}, "0 0"},
		{wages("A", "7"), "7 0"},
		{wages("A", "-7"), "-7 0"},
		{wages("A", "7", "-12", "7"), "2 0"},
		{wages("A", "-999999999999", "1", "0", "-2"), "-1000000000000 0"},
		{wages("A", slices.Repeat([]string{"999999999999"}, impl.MaxDeck)...), "39999999999960 0"},
		{wages("A", slices.Repeat([]string{"-999999999999"}, impl.MaxDeck)...), "-39999999999960 0"},
		{[]impl.Card{wide(15, 0), wide(15, 0)}, "0 0"},
		// Only the item's own columns matter.
		{[]impl.Card{card(slices.Concat([]int64{3}, wages("A", "5")[0].Holes[1:13], []int64{3, 4095})...)}, "5 0"},
	} {
		sum, code := impl.ItemTotal(wage(), x.deck, "pay")
		same(t, fmt.Sprintf("ItemTotal(%v)", x.deck), x.want, sum, code)
	}
}

func TestErrorsOfItemTotal(t *testing.T) {
	bad := wages("A", "7")[0]
	for _, mask := range append(illegalMasks(), 2, 1, 9, 12) {
		bad.Holes[12] = mask
		for place := range impl.MaxDeck {
			deck := wages("A", slices.Repeat([]string{"3"}, impl.MaxDeck)...)
			deck[place] = bad
			if mask == 4095 || place == 0 || place == impl.MaxDeck-1 {
				fails(t, impl.ErrFormat, impl.ItemTotal, wage(), deck, "pay")
				// The kind is told ahead of values, and the name ahead of both.
				fails(t, impl.ErrState, impl.ItemTotal, wage(), deck, "who")
				fails(t, impl.ErrNotFound, impl.ItemTotal, wage(), deck, "day")
			}
		}
	}
	for _, deck := range [][]impl.Card{nil, {}, wages("A", "1"), wages("A", "1", "2")} {
		fails(t, impl.ErrState, impl.ItemTotal, wage(), deck, "who")
		for _, name := range []string{"", "day", "Pay", "pay "} {
			fails(t, impl.ErrNotFound, impl.ItemTotal, wage(), deck, name)
		}
	}
	// A text of digits is no number.
	fails(t, impl.ErrState, impl.ItemTotal, wage(), wages("12", "1"), "who")
}

// TestErrorsOfDecks checks ErrInvalid and ErrRange, in this order, of the functions with a deck.
func TestErrorsOfDecks(t *testing.T) {
	total := func(code int64, l impl.Layout, deck []impl.Card) {
		t.Helper()
		for _, name := range []string{"pay", "who", "day"} {
			fails(t, code, impl.ItemTotal, l, deck, name)
			fails(t, code, impl.CountValue, l, deck, name, "7")
		}
	}
	good := wages("A", slices.Repeat([]string{"7"}, impl.MaxDeck)...)
	sum, one := impl.ItemTotal(wage(), good, "pay")
	count, two := impl.CountValue(wage(), good, "pay", "7")
	same(t, "a deck of MaxDeck cards", "280 0 40 0", sum, one, count, two)
	total(impl.ErrInvalid, wage(), wages("A", slices.Repeat([]string{"7"}, impl.MaxDeck+1)...))
	total(impl.ErrInvalid, wage(), wages("A", slices.Repeat([]string{"7"}, 3000)...))
	for _, l := range wrongLayouts() {
		for _, deck := range [][]impl.Card{nil, good, {{}}, {card(9)}} {
			total(impl.ErrInvalid, l, deck)
		}
	}
	for _, place := range []int{0, 1, impl.MaxDeck - 1} {
		// A card of another width among the others makes it no deck.
		for _, c := range append(wrongCards(), wide(15, -1), wide(15, 4096), wide(14, 0), wide(16, 0), wide(20, 3)) {
			deck := slices.Clone(good)
			deck[place] = c
			total(impl.ErrInvalid, wage(), deck)
		}
	}
	for _, width := range []int{1, 14, 16, 20} {
		for _, count := range []int{1, 2, impl.MaxDeck} {
			total(impl.ErrRange, wage(), copies(count, wide(width, 0)))
			total(impl.ErrRange, wage(), copies(count, wide(width, 3)))
		}
		total(impl.ErrInvalid, wage(), copies(impl.MaxDeck+1, wide(width, 0)))
	}
	total(impl.ErrInvalid, wage(), copies(1, wide(21, 0)))
}

func TestCountValue(t *testing.T) {
	deck := []impl.Card{
		cardOf("AB 007 "), cardOf("AB   7 "), cardOf(" AB00P "), cardOf("A B007X"), cardOf("ABC    "), cardOf("   000 "), cardOf("AB 07  "), cardOf("   XYZ "),
		card(9, 17, 3, 4, 4, 512, 0), card(0, 0, 6, 4, 4, 6, 3), card(9, 17, 0, 4, 4, 512, 4095),
	}
	for _, x := range []struct {
		name, value string
		want        int64
	}{
		{"who", "AB", 4}, {"who", " AB", 1}, {"who", "A B", 1}, {"who", "ABC", 1}, {"who", "", 2}, {"who", "A", 0}, {"who", "B", 0},
		// No card has a value with a blank at its end, nor one that cannot be punched.
		{"who", "AB ", 0}, {"who", " ", 0}, {"who", "   ", 0}, {"who", "ABCD", 0}, {"who", "ab", 0}, {"who", "\xff", 0},
		{"qty", "7", 5}, {"qty", "-7", 1}, {"qty", "0", 2}, {"qty", "", 0}, {"qty", "007", 0}, {"qty", "07", 0}, {"qty", "+7", 0}, {"qty", "-0", 0}, {"qty", "00", 0}, {"qty", "7 ", 0}, {"qty", "70", 0}, {"qty", "1000", 0}, {"qty", strings.Repeat("9", 40), 0},
	} {
		count, code := impl.CountValue(shop(), deck, x.name, x.value)
		same(t, fmt.Sprintf("CountValue(%q, %q)", x.name, x.value), fmt.Sprint(x.want, " 0"), count, code)
		fails(t, impl.ErrNotFound, impl.CountValue, shop(), deck, "day", x.value)
		fails(t, impl.ErrNotFound, impl.CountValue, shop(), []impl.Card{}, "", x.value)
		count, code = impl.CountValue(shop(), nil, x.name, x.value)
		same(t, "CountValue of no cards", "0 0", count, code)
	}
	count, code := impl.CountValue(shop(), copies(impl.MaxDeck, cardOf("7    7 ")), "qty", "7")
	same(t, "MaxDeck cards with 7", "40 0", count, code)
}

// texts are texts of layouts.
func texts() []string {
	return []string{
		"width 7\nwho text 0-3\nqty number 3-6\n",
		"width 1\n", "width 9\n", "width 10\n", "width 20\n",
		"width 1\na text 0-1\n", "width 1\na number 0-1\n",
		"width 20\nabcdefghijkl text 0-20\n", "width 12\nn number 0-12\n", "width 20\nn number 8-20\nt text 0-8\n",
		"width 7\nqty number 3-6\nwho text 0-3\n",
		"width 3\nwidth text 0-1\ntext number 1-2\nnumber text 2-3\n",
		"width 20\na text 0-1\nb text 1-2\nc text 2-3\nd text 3-4\ne text 4-5\nf text 5-6\ng number 6-7\nh number 7-8\ni number 8-9\nj number 9-10\nk number 10-11\nl number 11-12\n",
	}
}

// wrongTexts are texts of no layout.
func wrongTexts() []string {
	list := []string{
		"", "\n", " ", "width", "width\n", "width \n", "width 7", "width 0\n", "width 21\n", "width -1\n", "width +7\n", "width 07\n", "width 7 \n", "width  7\n", " width 7\n", "width 7\r\n", "width x\n", "width 7x\n", "width\t7\n", "Width 7\n", "7\n", "width 7 7\n", "width 7\n\n", "\nwidth 7\n", "width 99999999999999999999\n", "width 4294967303\n",
		"who text 0-3\n", "who text 0-3\nwidth 7\n", "width 7\nwidth 7\n", "width 7\nwidth 7\nwho text 0-3\n",
	}
	for _, line := range []string{
		"", " ", "who", "who text", "who 0-3", "text 0-3", "who text 0 3", "who text 0 - 3", "who text 0- 3", "who text 03", "who text 0", "who text -", "who text 0-", "who text -3", "who text 0--3", "who text -0-3", "who text -1-3", "who text 0-3-", "who text 0-3-4", "who text 0_3", "who text 0:3",
		"who text 0-3 ", " who text 0-3", "who  text 0-3", "who text  0-3", "who text 0-3 4", "who\ttext 0-3", "who text\t0-3", "who text 0-3\r", "who text 0-3\x00", "who text 0-3#",
		"who text 00-3", "who text 0-03", "who text +0-3", "who text 0-+3", "who text x-3", "who text 0-x", "who text 0x0-3", "who text 0-3.0", "who text 1e0-3",
		"who word 0-3", "who Text 0-3", "who tex 0-3", "who texts 0-3", "who number, 0-3", "who 1 0-3", "who 2 0-3", "who  0-3", "who numbers 0-3", "who item 0-3",
		"Who text 0-3", " text 0-3", "3 text 0-3", "w.o text 0-3", "abcdefghijklm text 0-3", "\xff text 0-3", "é text 0-3",
		"who text 0-8", "who text 7-8", "who text 3-3", "who text 3-2", "who text 0-0", "who text 0-99999999999999999999", "who text 0-18446744073709551617",
		"qty text 0-3", "who text 0-4", "who text 4-5", "who text 0-7",
	} {
		list = append(list, "width 7\n"+line+"\nqty number 3-6\n", "width 7\nqty number 3-6\n"+line+"\n")
	}
	return append(list, "width 20\nn number 0-13\n", "width 20\nn number 0-20\n", "width 14\nqty number 0-13\n", texts()[len(texts())-1]+"m text 12-13\n", "width 7\nwho text 0-3", "width 7\nwho text 0-3\n\n", "width 7\n\nwho text 0-3\n", strings.Repeat("width 7\n", 2000), "width 7\n"+strings.Repeat("a text 0-1\n", 2000), strings.Repeat("\n", 5000), strings.Repeat(" ", 5000))
}

func TestLayoutText(t *testing.T) {
	want := texts()[0]
	if got := impl.LayoutText(shop()); got != want {
		t.Errorf("LayoutText of the example: got %q", got)
	}
	if got := impl.LayoutText(layout(20, item("n", impl.ItemNumber, 8, 20), item("t", impl.ItemText, 0, 8))); got != "width 20\nn number 8-20\nt text 0-8\n" {
		t.Errorf("LayoutText of two items: got %q", got)
	}
	same(t, "LayoutText without items", "width 1\n", impl.LayoutText(layout(1)))
	for _, l := range someLayouts() {
		s := impl.LayoutText(l)
		if back, ok := impl.ReadLayout(s); s == "" || !ok || !impl.SameLayout(back, l) {
			t.Errorf("ReadLayout of LayoutText(%v), which is %q: got %v, %v", l, s, back, ok)
		}
	}
	for _, l := range wrongLayouts() {
		if s := impl.LayoutText(l); s != "" {
			t.Errorf("LayoutText(%v), which is not valid: got %q", l, s)
		}
	}
}

func TestReadLayout(t *testing.T) {
	l, ok := impl.ReadLayout(texts()[0])
	if !ok || !impl.SameLayout(l, shop()) {
		t.Errorf("ReadLayout of the example: got %v, %v", l, ok)
	}
	for _, s := range texts() {
		if l, ok := impl.ReadLayout(s); !ok || !impl.ValidLayout(l) || impl.LayoutText(l) != s {
			t.Errorf("ReadLayout(%q): got %v, %v", s, l, ok)
		}
	}
	for _, s := range wrongTexts() {
		if l, ok := impl.ReadLayout(s); ok || l.Width != 0 || len(l.Items) != 0 {
			t.Errorf("ReadLayout(%q): got %v, %v", s, l, ok)
		}
	}
}

var layoutTexts = regexp.MustCompile(`^width (0|[1-9][0-9]*)\n((?:[a-z][a-z0-9-]* (?:text|number) (?:0|[1-9][0-9]*)-(?:0|[1-9][0-9]*)\n)*)$`)

// readLayout returns the layout with a text, and whether there is one.
func readLayout(s string) (impl.Layout, bool) {
	parts := layoutTexts.FindStringSubmatch(s)
	if parts == nil {
		return impl.Layout{}, false
	}
	width, _ := strconv.ParseInt(parts[1], 10, 64)
	l := layout(width)
	for _, line := range strings.Split(strings.TrimSuffix(parts[2], "\n"), "\n") {
		var x impl.Item
		word := ""
		if n, _ := fmt.Sscanf(line, "%s %s %d-%d", &x.Name, &word, &x.Field.From, &x.Field.To); n == 4 {
			x.Kind = map[string]int64{"text": impl.ItemText, "number": impl.ItemNumber}[word]
			l.Items = append(l.Items, x)
		}
	}
	return l, impl.ValidLayout(l)
}

// TestReadLayoutOfChangedTexts reads all texts that differ from the text of a layout in one byte.
func TestReadLayoutOfChangedTexts(t *testing.T) {
	accepted := 0
	for _, whole := range []string{texts()[0], "width 20\nn number 10-20\nt text 0-8\n"} {
		for place := range len(whole) + 1 {
			changed := []string{whole[:place]}
			for _, b := range []byte("0123456789abtxwn- \n\r\t+A\x00\xff") {
				changed = append(changed, whole[:place]+string([]byte{b})+whole[place:])
				if place < len(whole) {
					changed = append(changed, whole[:place]+whole[place+1:], whole[:place]+string([]byte{b})+whole[place+1:])
				}
			}
			for _, s := range changed {
				want, known := readLayout(s)
				l, ok := impl.ReadLayout(s)
				if ok != known || ok && (!impl.SameLayout(l, want) || impl.LayoutText(l) != s) || !ok && (l.Width != 0 || len(l.Items) != 0) {
					t.Errorf("ReadLayout(%q): got %v, %v", s, l, ok)
				}
				if ok {
					accepted++
				}
			}
		}
	}
	if accepted < 100 {
		t.Errorf("only %d changed texts are those of layouts", accepted)
	}
}
