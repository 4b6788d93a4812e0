package tests

import (
	"cmp"
	"fmt"
	"reflect"
	"slices"
	"testing"

	"loop.example/g01012/impl"
)

// same fails the test unless the values got, one after the other, print like want.
func same(t *testing.T, what, want string, got ...any) {
	t.Helper()
	if s := fmt.Sprintf("%v", got); s != "["+want+"]" {
		t.Errorf("%s: got %s, want [%s]", what, s, want)
	}
}

// card returns a card with these columns.
func card(holes ...int64) impl.Card { return impl.Card{Holes: holes} }

// wide returns a card with so many equal columns.
func wide(width int, mask int64) impl.Card {
	return impl.Card{Holes: slices.Repeat([]int64{mask}, width)}
}

// copies returns so many equal cards, each with memory of its own.
func copies(count int, c impl.Card) []impl.Card {
	var deck []impl.Card
	for range count {
		deck = append(deck, impl.Card{Holes: slices.Clone(c.Holes)})
	}
	return deck
}

// spare is the number in the memory behind the elements of a slice, and in memory that is overwritten.
const spare = -77

// filler returns a value of a type that is not its zero value, where the type has others.
func filler(of reflect.Type) reflect.Value {
	out := reflect.New(of).Elem()
	switch of.Kind() {
	case reflect.Int64:
		out.SetInt(spare)
	case reflect.String:
		out.SetString("spare")
	case reflect.Slice:
		out.Set(reflect.Append(out, filler(of.Elem())))
	case reflect.Struct:
		for k := range of.NumField() {
			out.Field(k).Set(filler(of.Field(k).Type))
		}
	}
	return out
}

// copied returns a copy of a value with memory of its own. Of each slice it has the first elements, so many as length tells; a nil slice stays one.
func copied(v reflect.Value, length func(reflect.Value) int) reflect.Value {
	out := reflect.New(v.Type()).Elem()
	switch {
	case v.Kind() == reflect.Struct:
		for k := range v.NumField() {
			out.Field(k).Set(copied(v.Field(k), length))
		}
	case v.Kind() == reflect.Slice && !v.IsNil():
		out.Set(reflect.MakeSlice(v.Type(), length(v), length(v)))
		for k := range length(v) {
			out.Index(k).Set(copied(v.Slice(0, length(v)).Index(k), length))
		}
	case v.Kind() != reflect.Slice:
		out.Set(v)
	}
	return out
}

// roomy returns a copy of a value, each slice of which has unused capacity that is not empty. A nil slice stays one.
func roomy(v reflect.Value) reflect.Value {
	out := copied(v, reflect.Value.Len)
	switch {
	case v.Kind() == reflect.Struct:
		for k := range v.NumField() {
			out.Field(k).Set(roomy(v.Field(k)))
		}
	case v.Kind() == reflect.Slice && !v.IsNil():
		for k := range v.Len() {
			out.Index(k).Set(roomy(v.Index(k)))
		}
		more := filler(v.Type().Elem())
		out.Set(reflect.Append(out, roomy(more), roomy(more), roomy(more)).Slice(0, v.Len()))
	}
	return out
}

// memory returns a copy of all that a value has, unused capacity included.
func memory(x any) any { return copied(reflect.ValueOf(x), reflect.Value.Cap).Interface() }

// panics returns what f panics with; nil if it returns.
func panics(f func()) (value any) {
	defer func() { value = recover() }()
	f()
	return nil
}

// call returns the results of a function for some arguments.
func call(f any, arguments ...any) []any {
	in := []reflect.Value{}
	for _, x := range arguments {
		in = append(in, reflect.ValueOf(x))
	}
	out := []any{}
	for _, x := range reflect.ValueOf(f).Call(in) {
		out = append(out, x.Interface())
	}
	return out
}

// fails fails the test unless a function returns this code, which is an error, and zero values beside it.
func fails(t *testing.T, code int64, f any, arguments ...any) {
	t.Helper()
	got := call(f, arguments...)
	if got[len(got)-1] != code || !zeroButCode(got) {
		t.Errorf("%v: got %v, want the code %d", arguments, got, code)
	}
}

// spoil overwrites all memory that results of a call have, unused capacity included.
func spoil(results []any) {
	for _, x := range results {
		spoilValue(reflect.ValueOf(x))
	}
}

func spoilValue(v reflect.Value) {
	switch v.Kind() {
	case reflect.Struct:
		for k := range v.NumField() {
			spoilValue(v.Field(k))
		}
	case reflect.Slice:
		for k := range v.Cap() {
			element := v.Slice(0, v.Cap()).Index(k)
			spoilValue(element)
			element.Set(filler(element.Type()))
		}
	}
}

// A span is the memory of a slice, unused capacity included.
type span struct{ from, to uintptr }

// spansIn returns the memory of all slices that a value has.
func spansIn(v reflect.Value) []span {
	var list []span
	switch v.Kind() {
	case reflect.Struct:
		for k := range v.NumField() {
			list = append(list, spansIn(v.Field(k))...)
		}
	case reflect.Slice:
		if size := uintptr(v.Cap()) * v.Type().Elem().Size(); size > 0 {
			list = append(list, span{v.Pointer(), v.Pointer() + size})
		}
		for k := range v.Len() {
			list = append(list, spansIn(v.Index(k))...)
		}
	}
	return list
}

// separate reports whether no two slices of some results share memory.
func separate(results []any) bool {
	var all []span
	for _, x := range results {
		all = append(all, spansIn(reflect.ValueOf(x))...)
	}
	slices.SortFunc(all, func(a, b span) int { return cmp.Compare(a.from, b.from) })
	for k := 1; k < len(all); k++ {
		if all[k].from < all[k-1].to {
			return false
		}
	}
	return true
}

// zeroButCode reports whether all results but the last one are zero values; an empty slice counts as one.
func zeroButCode(results []any) bool {
	for _, x := range results[:len(results)-1] {
		if !isZero(reflect.ValueOf(x)) {
			return false
		}
	}
	return true
}

func isZero(v reflect.Value) bool {
	switch v.Kind() {
	case reflect.Slice:
		return v.Len() == 0
	case reflect.Struct:
		for k := range v.NumField() {
			if !isZero(v.Field(k)) {
				return false
			}
		}
		return true
	}
	return v.IsZero()
}
