package tests

import (
	"fmt"
	"math"
	"math/bits"
	"math/rand/v2"
	"slices"
	"strings"
	"testing"

	"loop.example/g01012/impl"
)

// wires returns wires, each of which is told by its hubs with a hyphen between them. They need not join any.
func wires(text string) []impl.Wire {
	var list []impl.Wire
	for _, word := range strings.Fields(text) {
		var w impl.Wire
		if _, err := fmt.Sscanf(word, "%d-%d", &w.A, &w.B); err != nil {
			panic(err)
		}
		list = append(list, w)
	}
	return list
}

// plugged returns a board with these wires. It need not be valid.
func plugged(exits, entries, joints int64, text string) impl.Board {
	return impl.Board{Exits: exits, Entries: entries, Joints: joints, Wires: wires(text)}
}

// isPlugged reports whether a wire joins two different hubs of a board whose numbers of hubs are right.
func isPlugged(b impl.Board, w impl.Wire) bool {
	hubs := b.Exits + b.Entries + b.Joints
	return w.A >= 0 && w.A < hubs && w.B >= 0 && w.B < hubs && w.A < w.B
}

// isBoard reports whether a board is valid.
func isBoard(b impl.Board) bool {
	for _, n := range []int64{b.Exits, b.Entries, b.Joints + 1} {
		if n < 1 || n > 31 {
			return false
		}
	}
	good := 0
	for _, w := range b.Wires {
		if isPlugged(b, w) {
			good++
		}
	}
	return b.Exits <= 20 && b.Entries <= 20 && b.Exits+b.Entries+b.Joints <= 30 && good == len(b.Wires) && good <= 40
}

// A hubSet has a bit for each of some hubs.
type hubSet uint64

// list returns the hubs from some one on that are below another one, in ascending order, the first one counted as 0.
func (s hubSet) list(from, to int64) []int64 {
	var list []int64
	for hub := from; hub < to; hub++ {
		if s>>hub&1 == 1 {
			list = append(list, hub-from)
		}
	}
	return list
}

// waysFrom returns, for each hub of a valid board, those to which there is a way: what is reached from one end of a wire is reached from its other end.
func waysFrom(b impl.Board) []hubSet {
	reached := make([]hubSet, b.Exits+b.Entries+b.Joints)
	for hub := range reached {
		reached[hub] = 1 << hub
	}
	for grown := true; grown; {
		grown = false
		for _, w := range b.Wires {
			both := reached[w.A] | reached[w.B]
			grown = grown || reached[w.A] != both || reached[w.B] != both
			reached[w.A], reached[w.B] = both, both
		}
	}
	return reached
}

// netsIn returns the sets of at least two hubs.
func netsIn(reached []hubSet) [][]int64 {
	var nets [][]int64
	for hub, set := range reached {
		if list := set.list(0, int64(len(reached))); len(list) > 1 && list[0] == int64(hub) {
			nets = append(nets, list)
		}
	}
	return nets
}

// pairsIn returns the pairs of the first hubs, which are exits, that are joined.
func pairsIn(reached []hubSet, exits int64) [][]int64 {
	var pairs [][]int64
	for a := range exits {
		for b := a + 1; b < exits; b++ {
			if reached[a]>>b&1 == 1 {
				pairs = append(pairs, []int64{a, b})
			}
		}
	}
	return pairs
}

// openIn returns the entries that no exit reaches.
func openIn(b impl.Board, reached []hubSet) []int64 {
	var open []int64
	for entry := range b.Entries {
		if reached[b.Exits+entry].list(0, b.Exits) == nil {
			open = append(open, entry)
		}
	}
	return open
}

// spareIn returns the wires that join what earlier ones have joined.
func spareIn(b impl.Board) []int64 {
	var list []int64
	for k, w := range b.Wires {
		earlier := b
		earlier.Wires = b.Wires[:k]
		if waysFrom(earlier)[w.A]>>w.B&1 == 1 {
			list = append(list, int64(k))
		}
	}
	return list
}

// leftOut returns a board without some wires.
func leftOut(b impl.Board, cut []int64) impl.Board {
	left := b
	left.Wires = nil
	for k, w := range b.Wires {
		if !slices.Contains(cut, int64(k)) {
			left.Wires = append(left.Wires, w)
		}
	}
	return left
}

// cutsIn returns the fewest cuts of a valid board after a search in all cuts, and false if there are too many wires for one.
func cutsIn(b impl.Board) ([]int64, bool) {
	var among, best []int64
	for k, w := range b.Wires {
		if len(waysFrom(b)[w.B].list(0, b.Exits)) >= 2 {
			among = append(among, int64(k))
		}
	}
	if len(among) > 10 {
		return nil, false
	}
	found := false
	for mask := range uint64(1) << len(among) {
		if found && bits.OnesCount64(mask) > len(best) {
			continue
		}
		var cut []int64
		for k, wire := range among {
			if mask>>k&1 == 1 {
				cut = append(cut, wire)
			}
		}
		if pairsIn(waysFrom(leftOut(b, cut)), b.Exits) != nil {
			continue
		}
		if !found || len(cut) < len(best) || slices.Compare(cut, best) < 0 {
			best, found = cut, true
		}
	}
	return best, true
}

// checkBoard compares what the functions with a board, and a number, return with what ways along its wires tell, or with the error that comes first. It returns the code of FewestCuts.
func checkBoard(t *testing.T, b impl.Board) int64 {
	t.Helper()
	same(t, fmt.Sprintf("ValidBoard(%v)", b), fmt.Sprint(isBoard(b)), impl.ValidBoard(b))
	alone := []trial{{"NetsOf", impl.NetsOf, []any{b}}, {"SneakPairs", impl.SneakPairs, []any{b}}, {"OpenEntries", impl.OpenEntries, []any{b}}, {"SpareWires", impl.SpareWires, []any{b}}, {"FewestCuts", impl.FewestCuts, []any{b}}}
	if !isBoard(b) {
		allFail(t, impl.ErrInvalid, alone)
		for _, n := range []int64{math.MinInt64, -1, 0, 1, b.Exits, math.MaxInt64} {
			allFail(t, impl.ErrInvalid, []trial{{"RemoveWire", impl.RemoveWire, []any{b, n}}, {"JoinedHubs", impl.JoinedHubs, []any{b, n}}, {"SourcesOf", impl.SourcesOf, []any{b, n}}})
		}
		return impl.ErrInvalid
	}
	reached := waysFrom(b)
	code, cuts := int64(impl.OK), []int64(nil)
	if best, ok := cutsIn(b); ok {
		cuts = best
	} else {
		code = impl.ErrFull
	}
	for k, want := range []any{netsIn(reached), pairsIn(reached, b.Exits), openIn(b, reached), spareIn(b)} {
		returns(t, impl.OK, []any{want}, alone[k].function, alone[k].name, b)
	}
	returns(t, code, []any{cuts}, impl.FewestCuts, "FewestCuts", b)
	for hub, set := range reached {
		returns(t, impl.OK, []any{set.list(0, int64(len(reached)))}, impl.JoinedHubs, "JoinedHubs", b, int64(hub))
	}
	for entry := range b.Entries {
		returns(t, impl.OK, []any{reached[b.Exits+entry].list(0, b.Exits)}, impl.SourcesOf, "SourcesOf", b, entry)
	}
	for k := range b.Wires {
		returns(t, impl.OK, []any{leftOut(b, []int64{int64(k)})}, impl.RemoveWire, "RemoveWire", b, int64(k))
	}
	checkOutside(t, b)
	return code
}

// checkOutside checks the error of numbers for which there is no hub, no entry or no wire.
func checkOutside(t *testing.T, b impl.Board) {
	t.Helper()
	hubs, count := b.Exits+b.Entries+b.Joints, int64(len(b.Wires))
	allFail(t, impl.ErrRange, []trial{
		{"JoinedHubs", impl.JoinedHubs, []any{b, int64(-1)}}, {"JoinedHubs", impl.JoinedHubs, []any{b, hubs}},
		{"SourcesOf", impl.SourcesOf, []any{b, int64(-1)}}, {"SourcesOf", impl.SourcesOf, []any{b, b.Entries}},
		{"RemoveWire", impl.RemoveWire, []any{b, int64(-1)}}, {"RemoveWire", impl.RemoveWire, []any{b, count}},
	})
}

// checkRoute compares what RouteCard returns with the holes of all exits that reach each entry, or with the error that comes first.
func checkRoute(t *testing.T, b impl.Board, c impl.Card) int64 {
	t.Helper()
	code := int64(impl.OK)
	switch {
	case !isBoard(b) || !isReadable(c):
		code = impl.ErrInvalid
	case int64(len(c.Holes)) != b.Exits:
		code = impl.ErrState
	}
	var want []any
	if code == impl.OK {
		var holes []int64
		for entry := range b.Entries {
			mask := int64(0)
			for _, exit := range waysFrom(b)[b.Exits+entry].list(0, b.Exits) {
				mask |= c.Holes[exit]
			}
			holes = append(holes, mask)
		}
		want = []any{card(holes...)}
	}
	returns(t, code, want, impl.RouteCard, "RouteCard", b, c)
	return code
}

// isReadable reports whether a card is valid.
func isReadable(c impl.Card) bool {
	good := 0
	for _, mask := range c.Holes {
		if mask >= 0 && mask < 4096 {
			good++
		}
	}
	return good == len(c.Holes) && good >= 1 && good <= 20
}

// checkAddWire compares what AddWire returns with the board and one more wire, or with the error that comes first.
func checkAddWire(t *testing.T, b impl.Board, w impl.Wire) int64 {
	t.Helper()
	code := int64(impl.OK)
	switch {
	case !isBoard(b):
		code = impl.ErrInvalid
	case len(b.Wires) >= 40:
		code = impl.ErrFull
	case !isPlugged(b, w):
		code = impl.ErrRange
	}
	more := b
	more.Wires = append(slices.Clone(b.Wires), w)
	returns(t, code, []any{more}, impl.AddWire, "AddWire", b, w)
	return code
}

// anyWires returns so many wires of some hubs.
func anyWires(random *rand.Rand, hubs int64, count int) []impl.Wire {
	var list []impl.Wire
	for range count {
		a, b := random.Int64N(hubs), random.Int64N(hubs-1)
		if b >= a {
			b++
		}
		list = append(list, impl.Wire{A: min(a, b), B: max(a, b)})
	}
	return list
}

// anyBoard returns a valid board. Some are small, and some have wires that are laid twice.
func anyBoard(random *rand.Rand) impl.Board {
	most := []int64{2, 4, 10, 20}[random.IntN(4)]
	b := impl.Board{Exits: 1 + random.Int64N(most)}
	b.Entries = 1 + random.Int64N(min(most, 30-b.Exits))
	b.Joints = random.Int64N(min(most, 30-b.Exits-b.Entries) + 1)
	count := random.IntN([]int{3, 8, 13, 41}[random.IntN(4)])
	b.Wires = anyWires(random, b.Exits+b.Entries+b.Joints, count)
	for k := range b.Wires {
		if random.IntN(5) == 0 {
			b.Wires[k] = b.Wires[random.IntN(len(b.Wires))]
		}
	}
	return b
}

// chain returns the wires from each hub to the next one, from some hub on, as many as told.
func chain(first, count int64) []impl.Wire {
	var list []impl.Wire
	for hub := first; hub < first+count; hub++ {
		list = append(list, impl.Wire{A: hub, B: hub + 1})
	}
	return list
}

// star returns the wires from all hubs from one on that are below another one to this one.
func star(first, center int64) []impl.Wire {
	var list []impl.Wire
	for hub := first; hub < center; hub++ {
		list = append(list, impl.Wire{A: hub, B: center})
	}
	return list
}

// with returns a board with these wires instead of its own.
func with(b impl.Board, list ...impl.Wire) impl.Board {
	b.Wires = slices.Clone(list)
	return b
}

// rightBoards are valid boards of all kinds.
func rightBoards() []impl.Board {
	return []impl.Board{
		plugged(1, 1, 0, ""), plugged(1, 1, 0, "0-1"), plugged(1, 1, 0, "0-1 0-1"), plugged(2, 1, 0, "0-2 1-2"), plugged(2, 1, 0, "0-2 1-2 0-1"), plugged(3, 2, 0, ""), plugged(3, 2, 2, "0-3 3-5 1-6 4-6"), plugged(4, 2, 1, "2-5 0-4 3-5 1-4 4-6 4-6"), plugged(2, 3, 1, "3-4 2-5 4-5"),
		plugged(1, 1, 28, ""), with(plugged(1, 1, 28, ""), chain(0, 29)...), with(plugged(20, 10, 0, ""), star(0, 29)...), with(plugged(20, 1, 9, ""), chain(0, 29)...), with(plugged(10, 20, 0, ""), star(10, 29)...), with(plugged(1, 20, 9, ""), star(0, 29)...), plugged(20, 10, 0, "0-29 19-20"),
		with(plugged(1, 1, 0, ""), slices.Repeat(wires("0-1"), 40)...), with(plugged(2, 2, 0, ""), slices.Repeat(wires("0-2 1-3"), 20)...), with(plugged(2, 2, 2, ""), slices.Repeat(wires("0-2 1-3 4-5 0-4"), 10)...), with(plugged(3, 1, 1, ""), slices.Repeat(wires("0-3 1-3 2-4"), 13)...),
		with(plugged(11, 1, 0, ""), star(0, 10)...), with(plugged(12, 1, 0, ""), star(0, 11)...),
	}
}

// wrongBoards are boards that are not valid.
func wrongBoards() []impl.Board {
	low, high := int64(math.MinInt64), int64(math.MaxInt64)
	list := []impl.Board{
		{}, plugged(0, 1, 0, ""), plugged(1, 0, 0, ""), plugged(1, 0, 1, "0-1"), plugged(0, 1, 1, "0-1"), plugged(-1, 1, 0, ""), plugged(1, -1, 0, ""), plugged(1, 1, -1, ""), plugged(3, -1, 0, "0-1"), plugged(-1, 3, 0, "0-1"), plugged(2, 2, -1, "0-1"), plugged(21, 1, 0, "0-1"), plugged(1, 21, 0, "0-1"), plugged(20, 20, 0, ""), plugged(1, 1, 29, ""), plugged(1, 1, 30, ""), plugged(1, 1, 31, ""), plugged(20, 10, 1, ""), plugged(10, 20, 1, ""), plugged(15, 15, 1, ""), plugged(20, 11, 0, ""),
		plugged(2, 1, 0, "1-1"), plugged(2, 1, 0, "0-0"), plugged(2, 1, 0, "2-1"), plugged(2, 1, 0, "1-0"), plugged(2, 1, 0, "-1-1"), plugged(2, 1, 0, "0-3"), plugged(2, 1, 0, "3-3"), plugged(2, 1, 0, "3-4"), plugged(2, 1, 0, "1--1"), plugged(2, 1, 0, "0-2 1-2 0-3"), plugged(2, 1, 0, "-1-0 0-2"), plugged(2, 1, 0, "0-2 2-2 1-2"), plugged(1, 1, 28, "0-30"), plugged(20, 10, 0, "29-30"), plugged(20, 10, 0, "0-29 29-0"),
		with(plugged(1, 1, 0, ""), slices.Repeat(wires("0-1"), 41)...), with(plugged(20, 10, 0, ""), append(slices.Repeat(wires("0-29"), 40), wires("1-29")...)...), with(plugged(2, 1, 0, ""), append(slices.Repeat(wires("0-2"), 39), wires("0-3")...)...), with(plugged(1, 1, 0, ""), slices.Repeat(wires("0-0"), 100)...), with(plugged(0, 0, 0, ""), slices.Repeat(wires("0-1"), 41)...),
		// The sums of their numbers of hubs overflow, or are small again.
		plugged(high, high, 4, "0-1"), plugged(high, 1, low, "0-1"), plugged(low, low, 5, "0-1"), plugged(low, 1, high, "0-1"), plugged(1, low, high, "0-1"), plugged(1, high, low, "0-1"), plugged(high, 3, low, "0-1"), plugged(2, low, low, "0-1"), plugged(low, 3, low, "0-1"), plugged(3, 20, high, "0-1"), plugged(20, 20, high-30, "0-1"), plugged(1<<62, 1<<62, 1<<62, ""), plugged(1<<32+1, 1, 0, "0-1"), plugged(1, 1<<32+1, 0, "0-1"), plugged(1, 1, 1<<32, "0-1"),
	}
	for _, w := range []impl.Wire{{A: low, B: high}, {A: low, B: 1}, {A: 0, B: high}, {A: high, B: low}, {A: low, B: low}, {A: high, B: high}, {A: 1 << 32, B: 1<<32 + 1}, {A: 0, B: 1<<32 + 1}, {A: -1 << 32, B: 1}} {
		list = append(list, with(plugged(2, 2, 0, ""), w), with(plugged(2, 2, 0, ""), append(wires("0-2 1-3"), w)...))
	}
	return list
}

// TestBoardsOfTheDocument checks the example of the chapter.
func TestBoardsOfTheDocument(t *testing.T) {
	b := plugged(2, 1, 0, "0-2 1-2")
	pairs, code := impl.SneakPairs(b)
	same(t, "both exits are joined", "[[0 1]] 0", pairs, code)
	from, code := impl.SourcesOf(b, 0)
	same(t, "the sources", "[0 1] 0", from, code)
	c, code := impl.RouteCard(b, card(9, 4))
	same(t, "the holes of both", "{[13]} 0", c, code)
	cuts, code := impl.FewestCuts(b)
	same(t, "the cut", "[0] 0", cuts, code)
	same(t, "limits", "30 40 10", impl.MaxHubs, impl.MaxWires, impl.MaxCut)
}

func TestValidBoard(t *testing.T) {
	for _, b := range rightBoards() {
		same(t, fmt.Sprintf("ValidBoard(%v)", b), "true", impl.ValidBoard(b))
	}
	for _, b := range wrongBoards() {
		same(t, fmt.Sprintf("ValidBoard(%v)", b), "false", impl.ValidBoard(b))
	}
	numbers := append(edges(), -2, 8, 14, 15, 16, 27, 28, 29, 30, 31, 40)
	for _, exits := range numbers {
		for _, entries := range numbers {
			for _, joints := range numbers {
				right := exits >= 1 && exits <= 20 && entries >= 1 && entries <= 20 && joints >= 0 && joints <= 30 && exits+entries+joints <= 30
				if impl.ValidBoard(plugged(exits, entries, joints, "")) != right || impl.ValidBoard(plugged(exits, entries, joints, "0-1")) != right {
					t.Errorf("ValidBoard with %d, %d and %d hubs: want %v", exits, entries, joints, right)
				}
			}
		}
	}
	for count := range 45 {
		b := with(plugged(20, 10, 0, ""), anyWires(rand.New(rand.NewPCG(12, 1)), 30, count)...)
		same(t, fmt.Sprintf("ValidBoard with %d wires", count), fmt.Sprint(count <= 40), impl.ValidBoard(b))
	}
	// Each wire, at each place, on boards of all numbers of hubs.
	for hubs := int64(2); hubs <= 30; hubs++ {
		for _, a := range []int64{math.MinInt64, -1, 0, 1, hubs - 2, hubs - 1, hubs, math.MaxInt64} {
			for _, z := range []int64{math.MinInt64, -1, 0, 1, hubs - 2, hubs - 1, hubs, hubs + 1, math.MaxInt64} {
				right := a >= 0 && a < z && z < hubs
				for place := range 3 {
					list := slices.Insert(wires("0-1 0-1"), place, impl.Wire{A: a, B: z})
					same(t, fmt.Sprintf("ValidBoard with %d hubs and %v", hubs, list), fmt.Sprint(right), impl.ValidBoard(with(plugged(1, 1, hubs-2, ""), list...)))
				}
			}
		}
	}
}

func TestSameBoard(t *testing.T) {
	all := slices.Concat(rightBoards(), wrongBoards())
	for at, a := range all {
		for other, b := range all {
			if got := impl.SameBoard(a, b); got != (at == other) {
				t.Errorf("SameBoard(%v, %v): got %v", a, b, got)
			}
		}
		same(t, fmt.Sprintf("SameBoard of %v and a copy", a), "true", impl.SameBoard(a, with(a, a.Wires...)))
	}
	b := plugged(3, 2, 1, "0-3 1-4 1-4")
	for _, x := range []struct {
		other impl.Board
		want  bool
	}{
		{plugged(3, 2, 1, "0-3 1-4 1-4"), true}, {plugged(4, 2, 1, "0-3 1-4 1-4"), false}, {plugged(3, 3, 1, "0-3 1-4 1-4"), false}, {plugged(3, 2, 0, "0-3 1-4 1-4"), false}, {plugged(2, 3, 1, "0-3 1-4 1-4"), false}, {plugged(3, 1, 2, "0-3 1-4 1-4"), false}, {plugged(1, 2, 3, "0-3 1-4 1-4"), false},
		// Other wires, and the same ones in another order.
		{plugged(3, 2, 1, "1-4 0-3 1-4"), false}, {plugged(3, 2, 1, "0-3 1-4"), false}, {plugged(3, 2, 1, "0-3 0-3 1-4"), false}, {plugged(3, 2, 1, "0-3 1-4 1-4 1-4"), false}, {plugged(3, 2, 1, "3-0 1-4 1-4"), false}, {plugged(3, 2, 1, "0-3 1-4 1-5"), false}, {plugged(3, 2, 1, "0-3 1-4 0-4"), false}, {plugged(3, 2, 1, "1-3 1-4 1-4"), false}, {plugged(3, 2, 1, "0-4 1-3 1-4"), false}, {plugged(3, 2, 1, ""), false},
	} {
		same(t, fmt.Sprintf("SameBoard(%v, %v)", b, x.other), fmt.Sprint(x.want, x.want), impl.SameBoard(b, x.other), impl.SameBoard(x.other, b))
	}
	none, empty := impl.Board{Exits: 1}, impl.Board{Exits: 1, Wires: []impl.Wire{}}
	same(t, "no wires and none", "true true true", impl.SameBoard(none, empty), impl.SameBoard(empty, none), impl.SameBoard(impl.Board{}, impl.Board{}))
}

// wrongWires are wires that do not join two different hubs of a board with so many hubs.
func wrongWires(hubs int64) []impl.Wire {
	return []impl.Wire{{A: 0, B: 0}, {A: 1, B: 1}, {A: 1, B: 0}, {A: hubs - 1, B: 0}, {A: hubs - 1, B: hubs - 1}, {A: -1, B: 0}, {A: -1, B: 1}, {A: -1, B: -1}, {A: 0, B: -1}, {A: 0, B: hubs}, {A: hubs - 1, B: hubs}, {A: hubs, B: hubs}, {A: hubs, B: hubs + 1}, {A: hubs, B: 0}, {A: 0, B: hubs + 1}, {A: math.MinInt64, B: math.MaxInt64}, {A: math.MinInt64, B: 1}, {A: 0, B: math.MaxInt64}, {A: math.MaxInt64, B: math.MinInt64}, {A: 0, B: 1 << 32}, {A: 0, B: 1<<32 + 1}, {A: 1 << 32, B: 1<<32 + 1}}
}

func TestAddWire(t *testing.T) {
	for _, x := range []struct {
		before string
		wire   string
		want   string
	}{
		{"", "0-4", "{2 2 1 [{0 4}]}"}, {"0-2 1-3", "0-1", "{2 2 1 [{0 2} {1 3} {0 1}]}"}, {"1-3 0-2", "0-2", "{2 2 1 [{1 3} {0 2} {0 2}]}"}, {"3-4", "0-1", "{2 2 1 [{3 4} {0 1}]}"}, {"0-1", "3-4", "{2 2 1 [{0 1} {3 4}]}"},
	} {
		b, code := impl.AddWire(plugged(2, 2, 1, x.before), wires(x.wire)[0])
		same(t, "AddWire of "+x.wire+" to "+x.before, x.want+" 0", b, code)
	}
	codes := map[int64]int{}
	for _, b := range append(rightBoards(), wrongBoards()...) {
		hubs := b.Exits + b.Entries + b.Joints
		for _, w := range append(wrongWires(hubs), impl.Wire{A: 0, B: 1}, impl.Wire{A: 0, B: hubs - 1}, impl.Wire{A: hubs - 2, B: hubs - 1}) {
			codes[checkAddWire(t, b, w)]++
		}
		for k := range min(3, len(b.Wires)) {
			codes[checkAddWire(t, b, b.Wires[k])]++
		}
	}
	same(t, "all codes of AddWire", "true true true true", codes[impl.OK] > 30, codes[impl.ErrInvalid] > 100, codes[impl.ErrRange] > 100, codes[impl.ErrFull] > 50)
	// One more wire than MaxWires - 1, and one more than MaxWires, which is told ahead of a wire that joins nothing.
	for _, b := range []impl.Board{plugged(1, 1, 0, ""), plugged(20, 10, 0, "")} {
		most, full := with(b, slices.Repeat(wires("0-1"), 39)...), with(b, slices.Repeat(wires("0-1"), 40)...)
		more, code := impl.AddWire(most, impl.Wire{A: 0, B: 1})
		same(t, "the last wire", "true 0", impl.SameBoard(more, full), code)
		fails(t, impl.ErrFull, impl.AddWire, full, impl.Wire{A: 0, B: 1})
		for _, w := range wrongWires(b.Exits + b.Entries) {
			fails(t, impl.ErrRange, impl.AddWire, most, w)
			fails(t, impl.ErrFull, impl.AddWire, full, w)
			fails(t, impl.ErrInvalid, impl.AddWire, with(b, append(full.Wires, impl.Wire{A: 0, B: 1})...), w)
		}
	}
}

func TestRemoveWire(t *testing.T) {
	for _, x := range []struct {
		before string
		k      int64
		want   string
	}{
		{"0-4", 0, "{2 2 1 []}"}, {"0-2 1-3 2-4", 0, "{2 2 1 [{1 3} {2 4}]}"}, {"0-2 1-3 2-4", 1, "{2 2 1 [{0 2} {2 4}]}"}, {"0-2 1-3 2-4", 2, "{2 2 1 [{0 2} {1 3}]}"},
		// One of two equal wires.
		{"0-2 0-2", 0, "{2 2 1 [{0 2}]}"}, {"0-2 1-3 0-2", 0, "{2 2 1 [{1 3} {0 2}]}"}, {"0-2 1-3 0-2", 2, "{2 2 1 [{0 2} {1 3}]}"}, {"0-1 0-1 0-1", 1, "{2 2 1 [{0 1} {0 1}]}"},
	} {
		b, code := impl.RemoveWire(plugged(2, 2, 1, x.before), x.k)
		same(t, fmt.Sprintf("RemoveWire of %d from %s", x.k, x.before), x.want+" 0", b, code)
	}
	for _, b := range rightBoards() {
		for _, k := range []int64{math.MinInt64, -1, int64(len(b.Wires)), int64(len(b.Wires)) + 1, 1 << 32, math.MaxInt64} {
			fails(t, impl.ErrRange, impl.RemoveWire, b, k)
		}
	}
	b := plugged(20, 10, 0, "")
	for _, w := range chain(0, 29) {
		more, _ := impl.AddWire(b, w)
		less, code := impl.RemoveWire(more, int64(len(b.Wires)))
		same(t, "a wire that is added and removed again", "true 0", impl.SameBoard(less, b), code)
		b = more
	}
}

func TestJoinedHubs(t *testing.T) {
	for _, x := range []struct {
		wires string
		hub   int64
		want  string
	}{
		// Exits are 0, 1 and 2, entries 3 and 4, and the others joints.
		{"", 0, "[0]"}, {"", 4, "[4]"}, {"", 6, "[6]"}, {"0-3", 0, "[0 3]"}, {"0-3", 3, "[0 3]"}, {"0-3", 1, "[1]"}, {"0-1", 1, "[0 1]"}, {"3-4", 4, "[3 4]"}, {"5-6", 6, "[5 6]"}, {"0-6", 6, "[0 6]"}, {"0-3 0-3", 3, "[0 3]"}, {"0-3 0-3", 0, "[0 3]"},
		// Ways over several hubs, in both directions.
		{"0-5 5-6 4-6", 0, "[0 4 5 6]"}, {"0-5 5-6 4-6", 4, "[0 4 5 6]"}, {"4-6 5-6 0-5", 5, "[0 4 5 6]"}, {"0-5 5-6 4-6", 3, "[3]"}, {"2-3 1-2 0-1", 0, "[0 1 2 3]"}, {"2-3 0-1 1-2", 3, "[0 1 2 3]"}, {"2-4 1-3 3-4", 1, "[1 2 3 4]"}, {"5-6 3-5 1-3", 6, "[1 3 5 6]"},
		// A ring, and two sets.
		{"0-3 3-4 0-4", 4, "[0 3 4]"}, {"0-3 1-4", 4, "[1 4]"}, {"0-3 1-4", 0, "[0 3]"}, {"0-3 1-4 3-4", 0, "[0 1 3 4]"}, {"0-1 2-3 4-5", 5, "[4 5]"}, {"0-1 2-3 4-5 1-2 3-4 5-6", 6, "[0 1 2 3 4 5 6]"},
	} {
		b := plugged(3, 2, 2, x.wires)
		hubs, code := impl.JoinedHubs(b, x.hub)
		same(t, fmt.Sprintf("JoinedHubs of %d with %s", x.hub, x.wires), x.want+" 0", hubs, code)
		checkBoard(t, b)
	}
	for _, b := range rightBoards() {
		hubs := b.Exits + b.Entries + b.Joints
		for _, hub := range []int64{math.MinInt64, -hubs, -1, hubs, hubs + 1, 30, 1 << 32, math.MaxInt64} {
			fails(t, impl.ErrRange, impl.JoinedHubs, b, hub)
		}
	}
}

func TestNetsOf(t *testing.T) {
	for _, x := range []struct{ wires, want string }{
		{"", "[]"}, {"0-3", "[[0 3]]"}, {"0-3 0-3", "[[0 3]]"}, {"0-3 1-4", "[[0 3] [1 4]]"}, {"1-4 0-3", "[[0 3] [1 4]]"}, {"5-6 0-1", "[[0 1] [5 6]]"}, {"3-6 2-5 0-4", "[[0 4] [2 5] [3 6]]"}, {"5-6 1-3 3-5", "[[1 3 5 6]]"}, {"4-6 0-5 1-2 5-6", "[[0 4 5 6] [1 2]]"}, {"2-6 1-5 0-4", "[[0 4] [1 5] [2 6]]"}, {"0-6 1-5 2-4", "[[0 6] [1 5] [2 4]]"}, {"0-1 1-2 2-3 3-4 4-5 5-6", "[[0 1 2 3 4 5 6]]"}, {"0-6 1-6 2-6 3-6 4-6 5-6", "[[0 1 2 3 4 5 6]]"}, {"5-6 4-5 3-4 2-3 1-2 0-1", "[[0 1 2 3 4 5 6]]"},
	} {
		b := plugged(3, 2, 2, x.wires)
		nets, code := impl.NetsOf(b)
		same(t, "NetsOf with "+x.wires, x.want+" 0", nets, code)
		checkBoard(t, b)
	}
	// Nets whose first hubs have two digits.
	b := plugged(10, 10, 10, "11-12 9-10 2-29 20-21 1-3")
	nets, code := impl.NetsOf(b)
	same(t, "NetsOf with great numbers", "[[1 3] [2 29] [9 10] [11 12] [20 21]] 0", nets, code)
	var pairs []impl.Wire
	for hub := int64(28); hub >= 0; hub -= 2 {
		pairs = append(pairs, impl.Wire{A: hub, B: hub + 1})
	}
	nets, code = impl.NetsOf(with(b, pairs...))
	same(t, "fifteen nets", "15 [0 1] [28 29] 0", len(nets), nets[0], nets[14], code)
}

func TestSourcesOf(t *testing.T) {
	for _, x := range []struct {
		wires string
		entry int64
		want  string
	}{
		{"", 0, "[]"}, {"", 1, "[]"}, {"0-3", 0, "[0]"}, {"0-3", 1, "[]"}, {"2-4", 1, "[2]"}, {"2-4", 0, "[]"}, {"0-3 1-3 2-3", 0, "[0 1 2]"}, {"2-3 0-3", 0, "[0 2]"}, {"1-4 1-4", 1, "[1]"}, {"3-4", 0, "[]"}, {"5-6 3-5", 0, "[]"},
		// Over other entries, joints and exits.
		{"0-4 3-4", 0, "[0]"}, {"0-4 3-4", 1, "[0]"}, {"2-6 5-6 3-5", 0, "[2]"}, {"2-6 5-6 3-5", 1, "[]"}, {"0-1 1-4", 1, "[0 1]"}, {"0-1 1-4", 0, "[]"}, {"0-5 1-5 2-5 4-5", 1, "[0 1 2]"}, {"0-3 1-4", 1, "[1]"},
	} {
		b := plugged(3, 2, 2, x.wires)
		from, code := impl.SourcesOf(b, x.entry)
		same(t, fmt.Sprintf("SourcesOf %d with %s", x.entry, x.wires), x.want+" 0", from, code)
		checkBoard(t, b)
	}
	for _, b := range rightBoards() {
		for _, entry := range []int64{math.MinInt64, -b.Entries, -1, b.Entries, b.Entries + 1, b.Exits + b.Entries, 20, 1 << 32, math.MaxInt64} {
			if entry < 0 || entry >= b.Entries {
				fails(t, impl.ErrRange, impl.SourcesOf, b, entry)
			}
		}
	}
	from, code := impl.SourcesOf(with(plugged(20, 10, 0, ""), star(0, 29)...), 9)
	same(t, "all exits", "[0 1 2 3 4 5 6 7 8 9 10 11 12 13 14 15 16 17 18 19] 0", from, code)
}

func TestSneakPairs(t *testing.T) {
	for _, x := range []struct{ wires, want string }{
		{"", "[]"}, {"0-4 1-5", "[]"}, {"4-5 5-6 6-7", "[]"}, {"0-1", "[[0 1]]"}, {"2-3", "[[2 3]]"}, {"2-3 2-3", "[[2 3]]"}, {"0-4 3-4", "[[0 3]]"}, {"0-6 6-7 2-7", "[[0 2]]"}, {"0-1 1-2", "[[0 1] [0 2] [1 2]]"}, {"1-3 0-2", "[[0 2] [1 3]]"}, {"0-3 1-2", "[[0 3] [1 2]]"}, {"2-3 0-1", "[[0 1] [2 3]]"}, {"1-5 3-5 2-4 0-4", "[[0 2] [1 3]]"}, {"0-4 1-4 2-4 3-4", "[[0 1] [0 2] [0 3] [1 2] [1 3] [2 3]]"}, {"3-4 2-4 1-4", "[[1 2] [1 3] [2 3]]"},
	} {
		b := plugged(4, 2, 2, x.wires)
		pairs, code := impl.SneakPairs(b)
		same(t, "SneakPairs with "+x.wires, x.want+" 0", pairs, code)
		checkBoard(t, b)
	}
	for _, list := range [][]impl.Wire{star(0, 20), star(0, 29), chain(0, 19), chain(0, 29)} {
		pairs, code := impl.SneakPairs(with(plugged(20, 10, 0, ""), list...))
		same(t, "all pairs of MaxColumns exits", "190 [0 1] [0 19] [1 2] [18 19] 0", len(pairs), pairs[0], pairs[18], pairs[19], pairs[189], code)
	}
}

func TestOpenEntries(t *testing.T) {
	for _, x := range []struct{ wires, want string }{
		{"", "[0 1 2]"}, {"0-2", "[1 2]"}, {"1-4", "[0 1]"}, {"0-3", "[0 2]"}, {"0-2 0-3 1-4", "[]"}, {"0-5 2-5 3-5 4-5", "[]"}, {"0-1", "[0 1 2]"}, {"0-5", "[0 1 2]"}, {"2-3 3-4", "[0 1 2]"}, {"2-3 3-4 1-2", "[]"}, {"2-5 4-5", "[0 1 2]"}, {"2-5 4-5 1-4", "[1]"}, {"0-2 0-2", "[1 2]"},
	} {
		b := plugged(2, 3, 1, x.wires)
		open, code := impl.OpenEntries(b)
		same(t, "OpenEntries with "+x.wires, x.want+" 0", open, code)
		checkBoard(t, b)
	}
	open, code := impl.OpenEntries(with(plugged(10, 20, 0, ""), star(10, 29)...))
	same(t, "entries that are joined with each other only", "20 0 19 0", len(open), open[0], open[19], code)
	open, code = impl.OpenEntries(plugged(10, 20, 0, "9-10 0-29 5-20"))
	same(t, "some of many entries", "17 [1 2 3 4 5 6 7 8 9 11 12 13 14 15 16 17 18] 0", len(open), open, code)
}

func TestRouteCard(t *testing.T) {
	for _, x := range []struct {
		wires string
		want  string
	}{
		// The columns are 9, 4 and 2050.
		{"", "{[0 0]}"}, {"0-3", "{[9 0]}"}, {"0-4", "{[0 9]}"}, {"2-3 1-4", "{[2050 4]}"}, {"0-3 1-3", "{[13 0]}"}, {"0-3 1-3 2-3 2-4", "{[2063 2063]}"}, {"0-3 0-4", "{[9 9]}"}, {"0-3 1-3 1-4", "{[13 13]}"}, {"0-5 1-5 4-5", "{[0 13]}"}, {"0-3 0-3", "{[9 0]}"}, {"3-4 2-3", "{[2050 2050]}"}, {"0-1 1-3", "{[13 0]}"}, {"0-5 2-5", "{[0 0]}"}, {"3-4", "{[0 0]}"}, {"0-2 2-4", "{[0 2059]}"},
	} {
		b := plugged(3, 2, 1, x.wires)
		c, code := impl.RouteCard(b, card(9, 4, 2050))
		same(t, "RouteCard with "+x.wires, x.want+" 0", c, code)
		same(t, "a right card", "0", checkRoute(t, b, card(9, 4, 2050)))
		same(t, "all holes", "0", checkRoute(t, b, wide(3, impl.AllRows)))
		// Cards with one column less, one more, and as many as there are entries or hubs.
		for _, width := range []int{1, 2, 4, 5, 6, 20} {
			fails(t, impl.ErrState, impl.RouteCard, b, wide(width, 9))
		}
		for _, wrong := range wrongCards() {
			fails(t, impl.ErrInvalid, impl.RouteCard, b, wrong)
		}
		fails(t, impl.ErrInvalid, impl.RouteCard, b, card(9, 4, 4096))
		fails(t, impl.ErrInvalid, impl.RouteCard, b, card(-1, 4, 9))
	}
	c := impl.Card{}
	var across []impl.Wire
	for exit := range int64(10) {
		c.Holes = append(c.Holes, 1<<exit)
		across = append(across, impl.Wire{A: exit, B: 29 - exit}, impl.Wire{A: exit, B: 10 + exit})
	}
	routed, code := impl.RouteCard(with(plugged(10, 20, 0, ""), across...), c)
	same(t, "MaxColumns entries", "{[1 2 4 8 16 32 64 128 256 512 512 256 128 64 32 16 8 4 2 1]} 0", routed, code)
	routed, code = impl.RouteCard(with(plugged(20, 10, 0, ""), star(0, 29)...), wide(20, 2048))
	same(t, "MaxColumns exits", "{[2048 2048 2048 2048 2048 2048 2048 2048 2048 2048]} 0", routed, code)
	codes := map[int64]int{}
	for _, b := range append(rightBoards(), wrongBoards()...) {
		for _, c := range slices.Concat(wrongCards(), []impl.Card{card(9), card(9, 4), card(1, 2, 4), card(1, 2, 4, 8), wide(10, 9), wide(19, 9), worn(20)}) {
			codes[checkRoute(t, b, c)]++
		}
		if isBoard(b) {
			codes[checkRoute(t, b, worn(int(b.Exits)))]++
		}
	}
	same(t, "all codes of RouteCard", "true true true", codes[impl.OK] > 20, codes[impl.ErrInvalid] > 100, codes[impl.ErrState] > 50)
}

func TestSpareWires(t *testing.T) {
	for _, x := range []struct{ wires, want string }{
		{"", "[]"}, {"0-2", "[]"}, {"0-2 0-2", "[1]"}, {"0-2 0-2 0-2", "[1 2]"}, {"0-2 1-3 0-2", "[2]"}, {"0-2 1-2 0-1", "[2]"}, {"0-1 0-2 1-2", "[2]"}, {"1-2 0-1 0-2", "[2]"}, {"0-2 2-4 1-4 0-1 3-4", "[3]"}, {"0-4 1-4 0-1 2-4 0-2 1-2 3-4", "[2 4 5]"}, {"0-1 2-3 1-2 0-3 0-4", "[3]"}, {"0-1 0-1 2-3 2-3 1-3 0-2", "[1 3 5]"}, {"3-4 2-3 2-4 0-1", "[2]"},
	} {
		b := plugged(2, 2, 1, x.wires)
		list, code := impl.SpareWires(b)
		same(t, "SpareWires with "+x.wires, x.want+" 0", list, code)
		checkBoard(t, b)
	}
	// The last wire of each ring is spare, wherever the ring begins.
	ring := append(chain(0, 29), impl.Wire{A: 0, B: 29})
	for first := range ring {
		list, code := impl.SpareWires(with(plugged(20, 10, 0, ""), append(slices.Clone(ring[first:]), ring[:first]...)...))
		same(t, "a ring", "[29] 0", list, code)
	}
	list, code := impl.SpareWires(with(plugged(1, 1, 0, ""), slices.Repeat(wires("0-1"), 40)...))
	same(t, "forty equal wires", "39 1 39 0", len(list), list[0], list[38], code)
}

func TestFewestCuts(t *testing.T) {
	for _, x := range []struct{ wires, want string }{
		// Exits are 0 to 3, entries 4 and 5, and joints 6 and 7. No exit is joined with another one.
		{"", "[]"}, {"0-4", "[]"}, {"0-4 1-5 2-6 3-7", "[]"}, {"0-4 4-5 5-6 6-7 4-7", "[]"}, {"0-4 0-4", "[]"}, {"4-5 6-7", "[]"},
		// One wire is enough.
		{"0-1", "[0]"}, {"0-4 1-4", "[0]"}, {"4-6 1-6 0-4", "[0]"}, {"4-5 0-4 1-4", "[1]"}, {"4-5 0-4 1-5", "[0]"}, {"6-7 4-6 0-4 1-4 4-7", "[2]"}, {"2-5 3-6 0-4 1-4", "[2]"}, {"0-4 4-5 4-5 1-5", "[0]"}, {"4-5 0-4 4-5 1-5", "[1]"}, {"0-4 0-4 1-4", "[2]"}, {"0-6 0-7 6-7 4-6 4-7 1-4", "[5]"},
		// Several lists of the fewest wires, of which the first one is told.
		{"0-4 1-4 2-4", "[0 1]"}, {"0-4 2-5 1-4 3-5", "[0 1]"}, {"0-1 1-2", "[0 1]"}, {"0-1 1-2 2-3", "[0 1 2]"}, {"0-4 1-4 2-4 3-4", "[0 1 2]"}, {"4-5 0-4 1-4 2-5 3-5", "[0 1 3]"}, {"0-4 1-4 2-5 3-5 4-5", "[0 1 2]"}, {"0-4 4-6 1-6 2-6", "[0 2]"}, {"4-6 0-4 1-6 2-6", "[0 2]"}, {"0-4 1-4 4-5 2-5", "[0 1]"}, {"0-6 1-6 6-7 2-7 3-7", "[0 1 3]"},
		// Rings.
		{"0-4 1-4 0-5 1-5", "[0 2]"}, {"0-4 0-5 1-4 1-5", "[0 1]"}, {"0-1 0-4 1-4", "[0 1]"}, {"0-4 4-5 1-5 0-1", "[0 3]"}, {"0-4 4-5 5-6 4-6 1-6", "[0]"}, {"4-5 5-6 4-6 0-4 1-6", "[3]"}, {"0-1 1-2 0-2", "[0 1 2]"}, {"0-4 4-5 0-5 1-4", "[3]"}, {"0-4 1-4 2-4 0-5 1-5 2-5", "[0 1 3 4]"},
		// Wires that are laid twice have to be left out both.
		{"0-1 0-1", "[0 1]"}, {"0-4 0-4 1-4 1-4", "[0 1]"}, {"1-4 0-4 1-4 0-4", "[0 2]"}, {"0-4 0-4 1-4 1-4 1-4", "[0 1]"}, {"0-4 0-4 0-4 1-4 1-4", "[3 4]"}, {"0-4 0-4 1-4 1-4 2-4", "[0 1 4]"}, {"0-4 4-5 4-5 1-5 1-5 0-4", "[0 5]"}, {"0-1 0-1 0-1 2-3 2-3", "[0 1 2 3 4]"}, {"0-4 1-4 0-4 1-4 2-4 2-4", "[0 1 2 3]"}, {"0-4 0-4 1-5 1-5 4-5", "[4]"},
	} {
		b := plugged(4, 2, 2, x.wires)
		cuts, code := impl.FewestCuts(b)
		same(t, "FewestCuts with "+x.wires, x.want+" 0", cuts, code)
		checkBoard(t, b)
	}
	// Either wire is enough, and the lesser number is told, which need not have the lesser text.
	for _, x := range []struct{ first, second int }{{0, 1}, {0, 39}, {2, 10}, {9, 10}, {3, 20}, {38, 39}} {
		list := slices.Repeat(wires("6-7"), 40)
		list[x.first], list[x.second] = impl.Wire{A: 1, B: 4}, impl.Wire{A: 0, B: 4}
		cuts, code := impl.FewestCuts(with(plugged(4, 2, 2, ""), list...))
		same(t, fmt.Sprintf("the wires %d and %d", x.first, x.second), fmt.Sprintf("[%d] 0", x.first), cuts, code)
	}
}

// TestLimitOfCuts checks FewestCuts with MaxCut wires, and one more, in nets with at least two exits. Wires in other nets do not count.
func TestLimitOfCuts(t *testing.T) {
	laid := func(parts ...any) impl.Board {
		b := plugged(4, 2, 2, "")
		for k := 0; k < len(parts); k += 2 {
			b.Wires = append(b.Wires, slices.Repeat(wires(parts[k].(string)), parts[k+1].(int))...)
		}
		return b
	}
	for _, x := range []struct {
		b    impl.Board
		want string
	}{
		{laid("0-4", 9, "1-4", 1), "[9]"}, {laid("1-4", 1, "0-4", 9), "[0]"}, {laid("0-4 1-4", 5), "[0 2 4 6 8]"}, {laid("0-4", 5, "1-4", 5), "[0 1 2 3 4]"}, {laid("0-1", 10), "[0 1 2 3 4 5 6 7 8 9]"}, {laid("0-4 1-4 2-5 3-5 4-5", 2), "[0 1 2 5 6 7]"}, {laid("0-4", 1, "4-5", 9), "[]"}, {laid("0-4 1-4", 2, "2-5 3-5", 3), "[0 2 4 6 8]"}, {laid("0-4 4-6 6-7 5-7 1-5", 2), "[0 5]"}, {laid("0-4", 4, "4-5", 3, "1-5", 3), "[4 5 6]"},
		// Wires in other nets.
		{laid("0-4 1-4", 5, "6-7", 30), "[0 2 4 6 8]"}, {laid("6-7", 30, "0-4 1-4", 5), "[30 32 34 36 38]"}, {laid("2-5", 30, "0-4 1-4", 5), "[30 32 34 36 38]"}, {laid("2-5 3-6 6-7", 10, "0-4 1-4", 5), "[30 32 34 36 38]"}, {laid("0-4", 40), "[]"}, {laid("0-4 1-5 2-6 3-7", 10), "[]"}, {laid("4-5 5-6 6-7 4-7", 10), "[]"}, {laid("2-5", 15, "0-4", 1, "2-5", 15, "1-4", 9), "[15]"},
	} {
		cuts, code := impl.FewestCuts(x.b)
		same(t, fmt.Sprintf("FewestCuts(%v)", x.b), x.want+" 0", cuts, code)
		same(t, "a board that is not too full", "0", checkBoard(t, x.b))
	}
	for _, b := range []impl.Board{
		laid("0-4", 10, "1-4", 1), laid("1-4", 1, "0-4", 10), laid("0-1", 11), laid("0-4 1-4", 6), laid("0-4 1-4", 2, "2-5 3-5", 3, "4-6", 1), laid("0-4 1-4", 3, "2-5", 4, "3-5", 1), laid("0-4 1-4", 1, "4-6 6-7 5-7", 3), laid("6-7", 29, "0-4", 6, "1-4", 5), laid("0-1", 40), laid("2-5", 15, "0-4", 2, "2-5", 14, "1-4", 9),
	} {
		fails(t, impl.ErrFull, impl.FewestCuts, b)
		same(t, "a board that is too full", "5", checkBoard(t, b))
	}
	// With each exit, one more wire has to be left out.
	for exits := int64(2); exits <= 20; exits++ {
		for _, list := range [][]impl.Wire{star(0, exits), star(0, exits-1), chain(0, exits-1)} {
			b := with(plugged(exits, 1, 0, ""), list...)
			if len(list) > impl.MaxCut {
				fails(t, impl.ErrFull, impl.FewestCuts, b)
				continue
			}
			cuts, code := impl.FewestCuts(b)
			same(t, fmt.Sprintf("FewestCuts(%v)", b), fmt.Sprint(exits-1, 0), len(cuts), code)
			checkBoard(t, b)
		}
	}
}

// TestBoardsOfAllKinds compares all functions for right and wrong boards. A board that is not valid is told ahead of all other errors.
func TestBoardsOfAllKinds(t *testing.T) {
	for _, b := range rightBoards() {
		same(t, fmt.Sprintf("%v", b), "true", checkBoard(t, b) != impl.ErrInvalid)
	}
	for _, b := range wrongBoards() {
		same(t, fmt.Sprintf("%v", b), "1", checkBoard(t, b))
		for _, n := range edges() {
			allFail(t, impl.ErrInvalid, []trial{{"RemoveWire", impl.RemoveWire, []any{b, n}}, {"JoinedHubs", impl.JoinedHubs, []any{b, n}}, {"SourcesOf", impl.SourcesOf, []any{b, n}}})
		}
	}
}

// TestAllSmallBoards compares all functions for all short lists of wires on small boards.
func TestAllSmallBoards(t *testing.T) {
	for _, x := range []struct {
		b    impl.Board
		most int
	}{{plugged(1, 1, 0, ""), 12}, {plugged(2, 1, 0, ""), 6}, {plugged(1, 1, 2, ""), 3}, {plugged(1, 3, 0, ""), 3}, {plugged(2, 1, 1, ""), 4}, {plugged(3, 1, 0, ""), 5}, {plugged(3, 2, 0, ""), 3}, {plugged(2, 2, 1, ""), 3}} {
		t.Run(fmt.Sprint(x.b), func(t *testing.T) {
			t.Parallel()
			var all []impl.Wire
			hubs := x.b.Exits + x.b.Entries + x.b.Joints
			for a := range hubs {
				for z := a + 1; z < hubs; z++ {
					all = append(all, impl.Wire{A: a, B: z})
				}
			}
			listsOf(all, x.most, nil, func(list []impl.Wire) { checkBoard(t, with(x.b, list...)) })
		})
	}
}

// TestP12 checks P12 for random boards: hubs are joined in both directions, without the told wires no two exits are, and without the spare ones the same hubs are joined.
func TestP12(t *testing.T) {
	random := rand.New(rand.NewPCG(12, 12))
	codes, cutting := map[int64]int{}, 0
	for range 2000 {
		b := anyBoard(random)
		code := checkBoard(t, b)
		codes[code]++
		checkDirections(t, b)
		checkSpares(t, b)
		if cuts, _ := impl.FewestCuts(b); code == impl.OK {
			checkCuts(t, b, cuts)
			if len(cuts) > 1 {
				cutting++
			}
		}
		checkRoute(t, b, impl.Card{Holes: worn(20).Holes[:b.Exits]})
		checkAddWire(t, b, anyWires(random, 31, 1)[0])
	}
	same(t, "all codes", "true true true", codes[impl.OK] > 1000, codes[impl.ErrFull] > 200, cutting > 200)
}

// checkDirections checks that each hub is in the list of each one that is in its own list, and that entries get what exits send.
func checkDirections(t *testing.T, b impl.Board) {
	t.Helper()
	lists := map[int64][]int64{}
	for hub := range b.Exits + b.Entries + b.Joints {
		lists[hub], _ = impl.JoinedHubs(b, hub)
		if !slices.Contains(lists[hub], hub) {
			t.Errorf("%v: %d is not joined with itself", b, hub)
		}
	}
	for hub, list := range lists {
		for _, other := range list {
			if !slices.Equal(list, lists[other]) {
				t.Errorf("%v: %d is joined with %v, and %d with %v", b, hub, list, other, lists[other])
			}
		}
	}
	for _, w := range b.Wires {
		if !slices.Contains(lists[w.A], w.B) {
			t.Errorf("%v: %v does not join its hubs", b, w)
		}
	}
}

// removed returns a board without some wires, which are removed one by one.
func removed(b impl.Board, list []int64) impl.Board {
	for _, k := range slices.Backward(list) {
		b, _ = impl.RemoveWire(b, k)
	}
	return b
}

// checkCuts checks that no two exits are joined without some wires, and that two are if one of them is left in.
func checkCuts(t *testing.T, b impl.Board, cuts []int64) {
	t.Helper()
	left := removed(b, cuts)
	pairs, code := impl.SneakPairs(left)
	same(t, fmt.Sprintf("the pairs of %v without %v", b, cuts), "[] 0", pairs, code)
	none, code := impl.FewestCuts(left)
	same(t, fmt.Sprintf("the cuts of %v without %v", b, cuts), "[] 0", none, code)
	for _, k := range cuts {
		more, _ := impl.AddWire(left, b.Wires[k])
		pairs, code := impl.SneakPairs(more)
		same(t, fmt.Sprintf("pairs of %v with the wire %d again", b, k), "true 0", len(pairs) > 0, code)
	}
}

// checkSpares checks that the same hubs are joined without the spare wires, and that without them no wire is spare.
func checkSpares(t *testing.T, b impl.Board) {
	t.Helper()
	list, _ := impl.SpareWires(b)
	left := removed(b, list)
	same(t, fmt.Sprintf("the nets of %v without %v", b, list), fmt.Sprint(call(impl.NetsOf, b)...), fmt.Sprint(call(impl.NetsOf, left)...))
	same(t, fmt.Sprintf("the spare wires of %v without %v", b, list), "[] 0", call(impl.SpareWires, left)...)
	for k := range left.Wires {
		less, _ := impl.RemoveWire(left, int64(k))
		same(t, fmt.Sprintf("without one more wire of %v, others are joined", left), "false", fmt.Sprint(call(impl.NetsOf, less)...) == fmt.Sprint(call(impl.NetsOf, left)...))
	}
}
