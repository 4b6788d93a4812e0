package tests

import (
	"fmt"
	"reflect"
	"slices"
	"testing"

	"loop.example/g01012/impl"
)

// same fails the test unless the values got, one after the other, print like want.
func same(t *testing.T, what, want string, got ...any) {
	t.Helper()
	if s := fmt.Sprintf("%v", got); s != "["+want+"]" {
		t.Errorf("%s: got %s, want [%s]", what, s, want)
	}
}

// card returns a card with these columns.
func card(holes ...int64) impl.Card { return impl.Card{Holes: holes} }

// wide returns a card with so many equal columns.
func wide(width int, mask int64) impl.Card {
	return impl.Card{Holes: slices.Repeat([]int64{mask}, width)}
}

// copies returns so many equal cards, each with memory of its own.
func copies(count int, c impl.Card) []impl.Card {
	var deck []impl.Card
	for range count {
		deck = append(deck, impl.Card{Holes: slices.Clone(c.Holes)})
	}
	return deck
}

// spare is what guarded memory has behind the elements of a slice.
const spare = -77

// guarded returns the numbers with unused capacity behind them, and all of this memory.
func guarded(list []int64) ([]int64, []int64) {
	all := append(slices.Clone(list), spare, spare, spare)
	return all[:len(list)], all
}

// panics returns what f panics with; nil if it returns.
func panics(f func()) (value any) {
	defer func() { value = recover() }()
	f()
	return nil
}

// call returns the results of a function for some arguments.
func call(f any, arguments ...any) []any {
	in := []reflect.Value{}
	for _, x := range arguments {
		in = append(in, reflect.ValueOf(x))
	}
	out := []any{}
	for _, x := range reflect.ValueOf(f).Call(in) {
		out = append(out, x.Interface())
	}
	return out
}

// fails fails the test unless a function returns this code, which is an error, and zero values beside it.
func fails(t *testing.T, code int64, f any, arguments ...any) {
	t.Helper()
	got := call(f, arguments...)
	if got[len(got)-1] != code || !zeroButCode(got) {
		t.Errorf("%v: got %v, want the code %d", arguments, got, code)
	}
}

// spoil overwrites all memory that results of a call have, unused capacity included.
func spoil(results []any) {
	for _, x := range results {
		switch v := x.(type) {
		case impl.Card:
			numbers := v.Holes[:cap(v.Holes)]
			for k := range numbers {
				numbers[k] = spare
			}
		case []int64:
			numbers := v[:cap(v)]
			for k := range numbers {
				numbers[k] = spare
			}
		case []string:
			texts := v[:cap(v)]
			for k := range texts {
				texts[k] = "spoiled"
			}
		}
	}
}

// zeroButCode reports whether all results but the last one are zero values.
func zeroButCode(results []any) bool {
	for _, x := range results[:len(results)-1] {
		v := reflect.ValueOf(x)
		if v.Kind() == reflect.Slice && v.Len() == 0 {
			continue
		}
		if c, ok := x.(impl.Card); ok && len(c.Holes) == 0 {
			continue
		}
		if !v.IsZero() {
			return false
		}
	}
	return true
}
