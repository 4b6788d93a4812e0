package tests

import (
	"fmt"
	"math"
	"math/rand/v2"
	"regexp"
	"slices"
	"strings"
	"testing"

	"loop.example/g01012/impl"
)

// counter returns a counter with these digits, the lowest one first. It need not be valid.
func counter(digits ...int64) impl.Counter { return impl.Counter{Digits: digits} }

// showing returns the counter with these digits, the highest one first.
func showing(text string) impl.Counter {
	var c impl.Counter
	for _, r := range text {
		c.Digits = append([]int64{int64(r - '0')}, c.Digits...)
	}
	return c
}

// shown returns the digits of a counter, the highest one first.
func shown(c impl.Counter) string {
	text := ""
	for _, digit := range c.Digits {
		text = fmt.Sprint(digit) + text
	}
	return text
}

// tenTo returns a power of ten.
func tenTo(n int) int64 {
	power := int64(1)
	for range n {
		power *= 10
	}
	return power
}

// shows returns the counter with so many wheels for a number.
func shows(wheels int, n int64) impl.Counter { return showing(fmt.Sprintf("%0*d", wheels, n)) }

// turns reports whether a counter is valid.
func turns(c impl.Counter) bool {
	good := 0
	for _, digit := range c.Digits {
		if slices.Contains([]int64{0, 1, 2, 3, 4, 5, 6, 7, 8, 9}, digit) {
			good++
		}
	}
	return good == len(c.Digits) && slices.Contains([]int{1, 2, 3, 4, 5, 6, 7, 8, 9, 10, 11, 12}, good)
}

// valueOf returns the number that a valid counter shows.
func valueOf(c impl.Counter) int64 {
	n := int64(0)
	for wheel, digit := range c.Digits {
		n += digit * tenTo(wheel)
	}
	return n
}

// returns fails the test unless a function returns these values and OK, or this error and zero values.
func returns(t *testing.T, code int64, want []any, f any, name string, arguments ...any) {
	t.Helper()
	got := call(f, arguments...)
	if code != impl.OK && (got[len(got)-1] != code || !zeroButCode(got)) {
		t.Errorf("%s(%v): got %v, want the code %d", name, arguments, got, code)
	}
	if code == impl.OK && fmt.Sprint(got...) != fmt.Sprint(append(want, int64(code))...) {
		t.Errorf("%s(%v): got %v, want %v", name, arguments, got, want)
	}
}

// operandError returns the first error of a counter and a number.
func operandError(c impl.Counter, n int64) int64 {
	switch {
	case !turns(c):
		return impl.ErrInvalid
	case n < 0 || n >= tenTo(len(c.Digits)):
		return impl.ErrRange
	}
	return impl.OK
}

// checkOperands compares what the functions with a counter and a number return with plain arithmetic, or with the error that comes first.
func checkOperands(t *testing.T, c impl.Counter, n int64) int64 {
	t.Helper()
	code := operandError(c, n)
	var added, taken, carries []any
	if code == impl.OK {
		wheels, before := len(c.Digits), valueOf(c)
		all := tenTo(wheels)
		added = []any{shows(wheels, (before+n)%all), before+n >= all}
		// The complement of n is added, and 1 where a carry is left.
		if before > n || before == n && before+all-1-n >= all {
			taken = []any{shows(wheels, before-n), true}
		} else {
			taken = []any{shows(wheels, before+all-1-n), false}
		}
		count := int64(0)
		for wheel := range wheels {
			// A wheel gives a carry where the digits up to it have a sum with one more digit.
			if below := tenTo(wheel + 1); before%below+n%below >= below {
				count++
			}
		}
		carries = []any{count}
	}
	returns(t, code, added, impl.AddToCounter, "AddToCounter", c, n)
	returns(t, code, taken, impl.TakeFromCounter, "TakeFromCounter", c, n)
	returns(t, code, carries, impl.CarriesOf, "CarriesOf", c, n)
	return code
}

// checkThereAndBack checks that adding a number and taking it away lead back. Where the 1 is not added that belongs to a carry, it is missing.
func checkThereAndBack(t *testing.T, c impl.Counter, n int64) {
	t.Helper()
	all := tenTo(len(c.Digits))
	missing := shown(shows(len(c.Digits), (valueOf(c)-1+all)%all))
	x, left, code := impl.AddToCounter(c, n)
	back, kept, again := impl.TakeFromCounter(x, n)
	// A carry that is left by the sum is lost, so that less than n is shown.
	want := missing
	if !left && valueOf(c) > 0 {
		want = shown(c)
	}
	same(t, fmt.Sprintf("%s and %d, taken away again", shown(c), n), fmt.Sprint(want, " ", want == shown(c), 0, 0), shown(back), kept, code, again)
	x, kept, code = impl.TakeFromCounter(c, n)
	back, left, again = impl.AddToCounter(x, n)
	want = missing
	if kept {
		want = shown(c)
	}
	same(t, fmt.Sprintf("%s less %d, added again", shown(c), n), fmt.Sprint(want, " ", !kept && valueOf(c) > 0, 0, 0), shown(back), left, code, again)
}

// oneIf returns 1 or 0.
func oneIf(is bool) int64 {
	if is {
		return 1
	}
	return 0
}

// checkCounter compares what the functions with a counter alone return with plain arithmetic, or with the error that comes first.
func checkCounter(t *testing.T, c impl.Counter) {
	t.Helper()
	code, text := int64(impl.ErrInvalid), ""
	var number, complement []any
	if turns(c) {
		code, text = impl.OK, shown(c)
		number = []any{valueOf(c)}
		complement = []any{shows(len(c.Digits), tenTo(len(c.Digits))-1-valueOf(c))}
	}
	same(t, fmt.Sprintf("ValidCounter(%v) and SameCounter of it", c), fmt.Sprint(turns(c), true), impl.ValidCounter(c), impl.SameCounter(c, counter(slices.Clone(c.Digits)...)))
	same(t, fmt.Sprintf("CounterText(%v)", c), text, impl.CounterText(c))
	returns(t, code, number, impl.NumberShown, "NumberShown", c)
	returns(t, code, complement, impl.ComplementOf, "ComplementOf", c)
	if turns(c) {
		read, ok := impl.ReadCounter(text)
		same(t, "ReadCounter of "+text, fmt.Sprint(c, true), read, ok)
		set, code := impl.SetCounter(int64(len(c.Digits)), valueOf(c))
		same(t, "SetCounter for "+text, fmt.Sprint(c, 0), set, code)
		other, _ := impl.ComplementOf(c)
		twice, code := impl.ComplementOf(other)
		same(t, "ComplementOf twice of "+text, fmt.Sprint(c, 0), twice, code)
	}
}

// checkSet compares what SetCounter returns with the digits of the number, or with the error that comes first.
func checkSet(t *testing.T, wheels, n int64) int64 {
	t.Helper()
	code := int64(impl.OK)
	switch {
	case wheels < 1 || wheels > 12 || n < 0:
		code = impl.ErrRange
	case n >= tenTo(int(wheels)):
		code = impl.ErrFull
	}
	var want []any
	if code == impl.OK {
		want = []any{shows(int(wheels), n)}
	}
	returns(t, code, want, impl.SetCounter, "SetCounter", wheels, n)
	return code
}

// checkSplit compares what SplitCounter returns with the parts of the text, or with the error that comes first.
func checkSplit(t *testing.T, c impl.Counter, wheels int64) int64 {
	t.Helper()
	code := int64(impl.OK)
	switch {
	case !turns(c):
		code = impl.ErrInvalid
	case wheels < 1 || wheels > int64(len(c.Digits))-1:
		code = impl.ErrRange
	}
	var want []any
	if code == impl.OK {
		text, at := shown(c), len(c.Digits)-int(wheels)
		want = []any{showing(text[at:]), showing(text[:at])}
		low, high, _ := impl.SplitCounter(c, wheels)
		returns(t, code, []any{c}, impl.JoinCounters, "JoinCounters", low, high)
	}
	returns(t, code, want, impl.SplitCounter, "SplitCounter", c, wheels)
	return code
}

// checkJoinedWheels compares what JoinCounters returns with the texts one behind the other, or with the error that comes first.
func checkJoinedWheels(t *testing.T, low, high impl.Counter) int64 {
	t.Helper()
	code := int64(impl.OK)
	switch {
	case !turns(low) || !turns(high):
		code = impl.ErrInvalid
	case len(low.Digits)+len(high.Digits) > 12:
		code = impl.ErrFull
	}
	returns(t, code, []any{showing(shown(high) + shown(low))}, impl.JoinCounters, "JoinCounters", low, high)
	return code
}

// checkBalance compares what BalanceAfter returns with the sum of the numbers, or with the error that comes first. It checks P11.
func checkBalance(t *testing.T, wheels int64, list []int64) int64 {
	t.Helper()
	code := int64(impl.OK)
	if wheels < 2 || wheels > 12 || len(list) > 40 {
		code = impl.ErrRange
	}
	for k := 0; code == impl.OK && k < len(list); k++ {
		if most := tenTo(int(wheels) - 1); list[k] <= -most || list[k] >= most {
			code = impl.ErrRange
		}
	}
	sum, moved := int64(0), false
	for k := 0; code == impl.OK && k < len(list); k++ {
		sum += list[k]
		moved = moved || list[k] != 0
		if most := tenTo(int(wheels) - 1); sum <= -most || sum >= most {
			code = impl.ErrFull
		}
	}
	// A balance that comes back to 0 is shown as nines, for each number is added to zeros or its complement to itself.
	returns(t, code, []any{sum, sum < 0 || sum == 0 && moved}, impl.BalanceAfter, "BalanceAfter", wheels, list)
	return code
}

// aCounter is the text of a counter.
var aCounter = regexp.MustCompile(`\A[0-9]{1,12}\z`)

// checkReadCounter compares what ReadCounter returns with the bytes of the text.
func checkReadCounter(t *testing.T, s string) bool {
	t.Helper()
	want, ok := impl.Counter{}, aCounter.MatchString(s)
	if ok {
		want = showing(s)
	}
	c, is := impl.ReadCounter(s)
	same(t, fmt.Sprintf("ReadCounter(%q)", s), fmt.Sprint(want, ok), c, is)
	if ok {
		same(t, "CounterText of "+s, s, impl.CounterText(c))
	}
	return ok
}

// TestCountersOfTheDocument checks the example of the chapter: 3 and -5 have the balance -2, which three wheels show as 997.
func TestCountersOfTheDocument(t *testing.T) {
	same(t, "the balance", "-2 true 0", call(impl.BalanceAfter, int64(3), []int64{3, -5})...)
	three, code := impl.SetCounter(3, 3)
	same(t, "3", "003 0", impl.CounterText(three), code)
	less, left, code := impl.TakeFromCounter(three, 5)
	same(t, "3 less 5", "997 false 0", impl.CounterText(less), left, code)
	two, code := impl.ComplementOf(less)
	n, again := impl.NumberShown(two)
	same(t, "the complement", "002 0 2 0", impl.CounterText(two), code, n, again)
	same(t, "the greatest number of wheels", "12", impl.MaxWheels)
}

func TestValidCounter(t *testing.T) {
	for count := range 16 {
		same(t, fmt.Sprintf("ValidCounter of %d digits", count), fmt.Sprint(count >= 1 && count <= 12), impl.ValidCounter(counter(make([]int64, count)...)))
		checkCounter(t, counter(make([]int64, count)...))
		for place := range count {
			for _, digit := range []int64{math.MinInt64, -256, -10, -1, 0, 1, 5, 8, 9, 10, 11, 255, 256, 1 << 32, math.MaxInt64} {
				c := counter(make([]int64, count)...)
				c.Digits[place] = digit
				same(t, fmt.Sprintf("ValidCounter(%v)", c), fmt.Sprint(count <= 12 && digit >= 0 && digit <= 9), impl.ValidCounter(c))
				checkCounter(t, c)
			}
		}
	}
	same(t, "no counter, and nines", "false false true false", impl.ValidCounter(impl.Counter{}), impl.ValidCounter(counter([]int64{}...)), impl.ValidCounter(showing("999999999999")), impl.ValidCounter(showing("9999999999999")))
	same(t, "a thousand digits", "false", impl.ValidCounter(counter(make([]int64, 1000)...)))
}

// wrongCounters are counters that are not valid.
func wrongCounters() []impl.Counter {
	return []impl.Counter{{}, counter([]int64{}...), counter(-1), counter(10), counter(0, -1), counter(-1, 0), counter(10, 0), counter(0, 10), counter(5, 10, 5), counter(5, -1, 5), counter(1, 2, math.MinInt64), counter(math.MaxInt64, 2, 1), counter(256), showing("0000000000000"), showing("9999999999999"), counter(-1, 0, 0, 0, 0, 0, 0, 0, 0, 0, 0, 0, 0), counter(make([]int64, 24)...)}
}

// rightCounters are counters of all numbers of wheels.
func rightCounters() []impl.Counter {
	var list []impl.Counter
	for wheels := 1; wheels <= 12; wheels++ {
		for _, text := range []string{"0", "9", "1", "5", "4"} {
			list = append(list, showing(strings.Repeat(text, wheels)))
		}
		list = append(list, showing("123456789012"[12-wheels:]), showing("900000000000"[:wheels]), showing("000000000001"[12-wheels:]), showing("099999999999"[:wheels]), showing("905090809995"[12-wheels:]))
	}
	return list
}

func TestSameCounter(t *testing.T) {
	all := slices.Concat(rightCounters(), wrongCounters())
	for _, a := range all {
		for _, b := range all {
			if want := fmt.Sprint(a) == fmt.Sprint(b); impl.SameCounter(a, b) != want {
				t.Errorf("SameCounter(%v, %v): want %v", a, b, want)
			}
		}
	}
	for _, x := range []struct {
		a, b impl.Counter
		want bool
	}{
		{counter(), counter(), true}, {impl.Counter{}, counter([]int64{}...), true}, {counter(), counter(0), false}, {counter(0), counter(), false}, {counter(0), counter(0, 0), false}, {counter(1, 2), counter(1, 2), true}, {counter(1, 2), counter(2, 1), false}, {counter(1, 2, 3), counter(1, 2, 4), false}, {counter(0, 2, 3), counter(1, 2, 3), false}, {counter(1, 2, 3), counter(1, 0, 3), false},
		// They need not be valid.
		{counter(10, -1), counter(10, -1), true}, {counter(10), counter(0, 1), false}, {counter(-1), counter(9), false}, {counter(math.MinInt64), counter(math.MinInt64), true}, {counter(256), counter(0), false}, {counter(make([]int64, 13)...), counter(make([]int64, 13)...), true}, {counter(make([]int64, 13)...), counter(make([]int64, 12)...), false},
	} {
		same(t, fmt.Sprintf("SameCounter(%v, %v)", x.a, x.b), fmt.Sprint(x.want, x.want), impl.SameCounter(x.a, x.b), impl.SameCounter(x.b, x.a))
	}
}

// numbersToAdd are numbers with few digits, those around all powers of ten, and the extremes.
func numbersToAdd() []int64 {
	list := []int64{math.MinInt64, math.MinInt64 + 1, -1 << 32, 0, 2, 5, 7, 8, 12, 50, 95, 123, 1 << 32, 123456789012, math.MaxInt64 - 1, math.MaxInt64}
	for digits := range 19 {
		power := tenTo(digits)
		list = append(list, power-1, power, power+1, -power, -power+1, -power-1, 5*(power/10))
	}
	return list
}

func TestSetCounter(t *testing.T) {
	for _, x := range []struct {
		wheels, n int64
		want      string
	}{
		{1, 0, "0"}, {1, 9, "9"}, {2, 0, "00"}, {2, 9, "09"}, {2, 10, "10"}, {2, 99, "99"}, {3, 45, "045"}, {3, 450, "450"}, {5, 120, "00120"}, {12, 0, "000000000000"}, {12, 999999999999, "999999999999"}, {12, 123456789012, "123456789012"}, {11, 99999999999, "99999999999"}, {12, 100000000000, "100000000000"}, {12, 1, "000000000001"},
	} {
		c, code := impl.SetCounter(x.wheels, x.n)
		same(t, fmt.Sprintf("SetCounter(%d, %d)", x.wheels, x.n), x.want+" 0", shown(c), code)
		n, code := impl.NumberShown(c)
		same(t, "NumberShown of "+x.want, fmt.Sprint(x.n, 0), n, code)
	}
	for _, x := range []struct{ wheels, n, code int64 }{
		{-1, 0, impl.ErrRange}, {0, 0, impl.ErrRange}, {13, 0, impl.ErrRange}, {math.MinInt64, 0, impl.ErrRange}, {math.MaxInt64, 0, impl.ErrRange}, {1 << 32, 0, impl.ErrRange}, {1<<32 + 1, 0, impl.ErrRange}, {3, -1, impl.ErrRange}, {3, math.MinInt64, impl.ErrRange},
		{1, 10, impl.ErrFull}, {3, 1000, impl.ErrFull}, {11, 100000000000, impl.ErrFull}, {12, 1000000000000, impl.ErrFull}, {12, math.MaxInt64, impl.ErrFull}, {1, math.MaxInt64, impl.ErrFull},
		// A number of wheels that is out of range, or a number that is negative, with too many digits.
		{0, 1, impl.ErrRange}, {0, 10, impl.ErrRange}, {-1, 1, impl.ErrRange}, {13, 10000000000000, impl.ErrRange}, {13, math.MaxInt64, impl.ErrRange}, {0, -1, impl.ErrRange}, {13, -1, impl.ErrRange}, {1, -1, impl.ErrRange}, {1, -10, impl.ErrRange}, {3, -1000, impl.ErrRange}, {12, -1000000000000, impl.ErrRange}, {1, math.MinInt64, impl.ErrRange}, {math.MinInt64, math.MaxInt64, impl.ErrRange},
	} {
		fails(t, x.code, impl.SetCounter, x.wheels, x.n)
	}
	codes := map[int64]int{}
	for _, wheels := range append(edges(), 4, 5, 6, 7, 8) {
		for _, n := range numbersToAdd() {
			codes[checkSet(t, wheels, n)]++
		}
	}
	same(t, "all codes of SetCounter", "true true true", codes[impl.OK] > 100, codes[impl.ErrRange] > 100, codes[impl.ErrFull] > 100)
}

// TestCarries checks what is shown and left, and how many wheels give a carry, where n is added.
func TestCarries(t *testing.T) {
	for _, x := range []struct {
		before  string
		n       int64
		after   string
		left    bool
		carries int64
	}{
		// No wheel gives a carry.
		{"000", 0, "000", false, 0}, {"999", 0, "999", false, 0}, {"123", 456, "579", false, 0}, {"900", 99, "999", false, 0}, {"097", 2, "099", false, 0}, {"0", 9, "9", false, 0}, {"9", 0, "9", false, 0}, {"000000000000", 999999999999, "999999999999", false, 0},
		// One in the middle gives one, or the first one.
		{"050", 50, "100", false, 1}, {"1290", 10, "1300", false, 1}, {"0009", 1, "0010", false, 1}, {"0900", 100, "1000", false, 1}, {"0505", 505, "1010", false, 2}, {"000000500000", 500000, "000001000000", false, 1},
		// A carry goes on over wheels that show 9.
		{"097", 5, "102", false, 2}, {"0999", 1, "1000", false, 3}, {"0990", 10, "1000", false, 2}, {"09099", 1, "09100", false, 2}, {"0999", 990, "1989", false, 2}, {"0555", 445, "1000", false, 3}, {"0555", 444, "0999", false, 0}, {"0909", 91, "1000", false, 3}, {"099999999999", 1, "100000000000", false, 11},
		// The last wheel gives one, which is left.
		{"097", 903, "000", true, 3}, {"999", 1, "000", true, 3}, {"900", 100, "000", true, 1}, {"900", 900, "800", true, 1}, {"999", 999, "998", true, 3}, {"909", 101, "010", true, 2}, {"990", 10, "000", true, 2}, {"500", 500, "000", true, 1}, {"999999999999", 1, "000000000000", true, 12}, {"999999999999", 999999999999, "999999999998", true, 12}, {"900000000000", 100000000000, "000000000000", true, 1},
		// One wheel.
		{"9", 1, "0", true, 1}, {"9", 9, "8", true, 1}, {"5", 5, "0", true, 1}, {"1", 8, "9", false, 0}, {"1", 9, "0", true, 1},
	} {
		c := showing(x.before)
		after, left, code := impl.AddToCounter(c, x.n)
		same(t, fmt.Sprintf("%s and %d", x.before, x.n), fmt.Sprint(x.after, " ", x.left, 0), shown(after), left, code)
		carries, code := impl.CarriesOf(c, x.n)
		same(t, fmt.Sprintf("the carries of %s and %d", x.before, x.n), fmt.Sprint(x.carries, 0), carries, code)
		checkOperands(t, c, x.n)
		checkThereAndBack(t, c, x.n)
	}
}

func TestTakeFromCounter(t *testing.T) {
	for _, x := range []struct {
		before string
		n      int64
		after  string
		left   bool
	}{
		// Less than is shown: a carry is left, and 1 is added.
		{"097", 30, "067", true}, {"097", 96, "001", true}, {"097", 0, "097", true}, {"999", 998, "001", true}, {"999", 1, "998", true}, {"100", 1, "099", true}, {"100", 99, "001", true}, {"9", 8, "1", true}, {"1", 0, "1", true}, {"999999999999", 999999999998, "000000000001", true}, {"100000000000", 1, "099999999999", true}, {"001", 0, "001", true}, {"000000000001", 0, "000000000001", true},
		// As much as is shown: no carry is left, and all wheels show 9.
		{"097", 97, "999", false}, {"000", 0, "999", false}, {"999", 999, "999", false}, {"0", 0, "9", false}, {"9", 9, "9", false}, {"5", 5, "9", false}, {"000000000000", 0, "999999999999", false}, {"999999999999", 999999999999, "999999999999", false}, {"123456789012", 123456789012, "999999999999", false},
		// More than is shown: the complement of what is missing.
		{"003", 5, "997", false}, {"097", 98, "998", false}, {"000", 1, "998", false}, {"000", 999, "000", false}, {"001", 999, "001", false}, {"0", 9, "0", false}, {"4", 6, "7", false}, {"000000000000", 999999999999, "000000000000", false}, {"000000000000", 1, "999999999998", false}, {"998", 999, "998", false},
	} {
		after, left, code := impl.TakeFromCounter(showing(x.before), x.n)
		same(t, fmt.Sprintf("%s less %d", x.before, x.n), fmt.Sprint(x.after, " ", x.left, 0), shown(after), left, code)
		checkOperands(t, showing(x.before), x.n)
		checkThereAndBack(t, showing(x.before), x.n)
	}
}

// TestAllSmallCounters compares with plain arithmetic for all counters of one and two wheels with all numbers, and for some of three.
func TestAllSmallCounters(t *testing.T) {
	for wheels := 1; wheels <= 3; wheels++ {
		step := []int64{1, 1, 7}[wheels-1]
		for before := int64(0); before < tenTo(wheels); before += step {
			c := shows(wheels, before)
			checkCounter(t, c)
			for n := int64(-2); n < tenTo(wheels)+2; n += step {
				if checkOperands(t, c, n) == impl.OK {
					checkThereAndBack(t, c, n)
				}
			}
		}
	}
}

// TestOperandsOfAllKinds compares with plain arithmetic, or with the error that comes first, for all combinations of right and wrong counters and numbers.
func TestOperandsOfAllKinds(t *testing.T) {
	codes := map[int64]int{}
	for _, c := range slices.Concat(rightCounters(), wrongCounters()) {
		for _, n := range numbersToAdd() {
			codes[checkOperands(t, c, n)]++
		}
		checkCounter(t, c)
	}
	same(t, "all codes", "true true true", codes[impl.OK] > 1000, codes[impl.ErrInvalid] > 1000, codes[impl.ErrRange] > 1000)
	for wheels := 1; wheels <= 12; wheels++ {
		for _, c := range []impl.Counter{shows(wheels, 0), shows(wheels, tenTo(wheels)-1)} {
			for _, n := range []int64{-1, tenTo(wheels), tenTo(wheels) + 1, -tenTo(wheels), 10 * tenTo(wheels), math.MinInt64, math.MaxInt64} {
				same(t, fmt.Sprintf("%v and %d", c, n), "2", checkOperands(t, c, n))
			}
			same(t, fmt.Sprintf("%v and the greatest number", c), "0", checkOperands(t, c, tenTo(wheels)-1))
		}
	}
	// A counter that is not valid is told ahead of a number that does not fit.
	for _, c := range wrongCounters() {
		for _, n := range []int64{0, -1, 1, 10, math.MinInt64, math.MaxInt64} {
			allFail(t, impl.ErrInvalid, []trial{{"AddToCounter", impl.AddToCounter, []any{c, n}}, {"TakeFromCounter", impl.TakeFromCounter, []any{c, n}}, {"CarriesOf", impl.CarriesOf, []any{c, n}}, {"SplitCounter", impl.SplitCounter, []any{c, n}}})
		}
	}
}

func TestNumberShown(t *testing.T) {
	for _, x := range []struct {
		text string
		want int64
	}{
		{"0", 0}, {"9", 9}, {"00", 0}, {"097", 97}, {"970", 970}, {"100", 100}, {"001", 1}, {"000000000000", 0}, {"000000000001", 1}, {"100000000000", 100000000000}, {"999999999999", 999999999999}, {"123456789012", 123456789012},
	} {
		n, code := impl.NumberShown(showing(x.text))
		same(t, "NumberShown of "+x.text, fmt.Sprint(x.want, 0), n, code)
	}
	for _, c := range wrongCounters() {
		fails(t, impl.ErrInvalid, impl.NumberShown, c)
		fails(t, impl.ErrInvalid, impl.ComplementOf, c)
	}
}

func TestComplementOf(t *testing.T) {
	for _, x := range []struct{ text, want string }{
		{"097", "902"}, {"000", "999"}, {"999", "000"}, {"0", "9"}, {"9", "0"}, {"4", "5"}, {"123456789012", "876543210987"}, {"000000000000", "999999999999"}, {"999999999999", "000000000000"}, {"001", "998"}, {"100", "899"},
	} {
		c, code := impl.ComplementOf(showing(x.text))
		same(t, "ComplementOf of "+x.text, x.want+" 0", shown(c), code)
	}
	for _, c := range rightCounters() {
		checkCounter(t, c)
	}
}

func TestSplitCounter(t *testing.T) {
	for _, x := range []struct {
		text      string
		wheels    int64
		low, high string
	}{
		{"097", 1, "7", "09"}, {"097", 2, "97", "0"}, {"10", 1, "0", "1"}, {"00", 1, "0", "0"}, {"123456789012", 1, "2", "12345678901"}, {"123456789012", 11, "23456789012", "1"}, {"123456789012", 6, "789012", "123456"}, {"12345", 4, "2345", "1"},
	} {
		low, high, code := impl.SplitCounter(showing(x.text), x.wheels)
		same(t, fmt.Sprintf("SplitCounter of %s by %d", x.text, x.wheels), x.low+" "+x.high+" 0", shown(low), shown(high), code)
		joined, code := impl.JoinCounters(low, high)
		same(t, "both parts of "+x.text, x.text+" 0", shown(joined), code)
	}
	for _, c := range []impl.Counter{showing("097"), showing("12"), showing("123456789012"), showing("0"), showing("9")} {
		most := int64(len(c.Digits))
		for _, wheels := range []int64{math.MinInt64, -most, -1, 0, most, most + 1, 12, 13, 1<<32 + 1, math.MaxInt64} {
			if wheels < 1 || wheels >= most {
				fails(t, impl.ErrRange, impl.SplitCounter, c, wheels)
			}
		}
	}
	// A counter of one wheel is never split.
	for digit := range int64(10) {
		fails(t, impl.ErrRange, impl.SplitCounter, counter(digit), int64(1))
		fails(t, impl.ErrRange, impl.SplitCounter, counter(digit), int64(0))
	}
	for _, c := range slices.Concat(rightCounters(), wrongCounters()) {
		for _, wheels := range append(edges(), 4, 5, 6, 7, 8) {
			checkSplit(t, c, wheels)
		}
	}
}

func TestJoinCounters(t *testing.T) {
	for _, x := range []struct{ low, high, want string }{
		{"7", "09", "097"}, {"97", "0", "097"}, {"0", "0", "00"}, {"1", "0", "01"}, {"0", "1", "10"}, {"123456", "654321", "654321123456"}, {"1", "00000000000", "000000000001"}, {"00000000000", "1", "100000000000"},
	} {
		c, code := impl.JoinCounters(showing(x.low), showing(x.high))
		same(t, fmt.Sprintf("JoinCounters of %s and %s", x.low, x.high), x.want+" 0", shown(c), code)
	}
	for _, x := range []struct{ low, high string }{{"0000000", "000000"}, {"0", "000000000000"}, {"000000000000", "0"}, {"123456789012", "123456789012"}, {"9999999", "999999"}, {"000000", "0000000"}} {
		fails(t, impl.ErrFull, impl.JoinCounters, showing(x.low), showing(x.high))
	}
	codes := map[int64]int{}
	all := slices.Concat(rightCounters(), wrongCounters())
	for _, low := range all {
		for _, high := range all {
			codes[checkJoinedWheels(t, low, high)]++
		}
	}
	same(t, "all codes of JoinCounters", "true true true", codes[impl.OK] > 1000, codes[impl.ErrInvalid] > 1000, codes[impl.ErrFull] > 1000)
	// A counter that is not valid is told ahead of too many wheels, whichever of both it is.
	for _, c := range wrongCounters() {
		for _, other := range []impl.Counter{showing("0"), showing("000000000000"), c} {
			fails(t, impl.ErrInvalid, impl.JoinCounters, c, other)
			fails(t, impl.ErrInvalid, impl.JoinCounters, other, c)
		}
	}
}

func TestBalanceAfter(t *testing.T) {
	for _, x := range []struct {
		wheels int64
		list   []int64
		want   int64
		nines  bool
	}{
		{3, []int64{3, -5}, -2, true}, {3, []int64{3, -5, 12}, 10, false}, {3, []int64{-5, 3}, -2, true}, {3, []int64{5}, 5, false}, {3, []int64{-5}, -5, true}, {3, []int64{99}, 99, false}, {3, []int64{-99}, -99, true}, {3, []int64{99, -99, -99, 99, 1}, 1, false}, {3, []int64{50, 49}, 99, false}, {3, []int64{-50, -49}, -99, true}, {3, []int64{-1, -1, -1}, -3, true}, {3, []int64{10, 20, 30}, 60, false},
		// No numbers, and a balance of 0 that is shown as zeros.
		{3, nil, 0, false}, {3, []int64{}, 0, false}, {2, nil, 0, false}, {12, nil, 0, false}, {3, []int64{0}, 0, false}, {3, []int64{0, 0, 0}, 0, false},
		// A balance of 0 that is shown as nines.
		{3, []int64{5, -5}, 0, true}, {3, []int64{-5, 5}, 0, true}, {3, []int64{0, 99, -99}, 0, true}, {3, []int64{5, -5, 0}, 0, true}, {3, []int64{1, 2, -3, 0, 0}, 0, true}, {2, []int64{9, -9}, 0, true}, {12, []int64{-99999999999, 99999999999}, 0, true},
		// Behind these nines, a number is added with a carry that is left.
		{3, []int64{5, -5, 7}, 7, false}, {3, []int64{5, -5, -7}, -7, true}, {3, []int64{5, -5, 7, -7, 1, -1}, 0, true}, {3, []int64{5, -5, 99}, 99, false}, {3, []int64{5, -5, -99}, -99, true},
		{2, []int64{9}, 9, false}, {2, []int64{-9}, -9, true}, {2, []int64{9, -9, -9, 9, 9}, 9, false}, {2, []int64{4, 5}, 9, false}, {2, []int64{-4, -5, 8}, -1, true},
		{12, []int64{99999999999}, 99999999999, false}, {12, []int64{-99999999999}, -99999999999, true}, {12, []int64{50000000000, 49999999999, -1}, 99999999998, false}, {11, []int64{9999999999, -1}, 9999999998, false}, {12, []int64{1, -99999999999, -1}, -99999999999, true},
	} {
		n, nines, code := impl.BalanceAfter(x.wheels, x.list)
		same(t, fmt.Sprintf("BalanceAfter(%d, %v)", x.wheels, x.list), fmt.Sprint(x.want, x.nines, 0), n, nines, code)
		checkBalance(t, x.wheels, x.list)
	}
	same(t, "MaxDeck numbers", "40 false 0 -80 true 0", append(call(impl.BalanceAfter, int64(3), slices.Repeat([]int64{1}, impl.MaxDeck)), call(impl.BalanceAfter, int64(3), slices.Repeat([]int64{-2}, impl.MaxDeck))...)...)
}

// TestErrorsOfBalances checks the errors in their order, each over all numbers.
func TestErrorsOfBalances(t *testing.T) {
	many, few := slices.Repeat([]int64{1}, impl.MaxDeck+1), slices.Repeat([]int64{1}, impl.MaxDeck)
	for _, x := range []struct {
		wheels int64
		list   []int64
		code   int64
	}{
		{1, nil, impl.ErrRange}, {0, nil, impl.ErrRange}, {-1, nil, impl.ErrRange}, {13, nil, impl.ErrRange}, {math.MinInt64, nil, impl.ErrRange}, {math.MaxInt64, nil, impl.ErrRange}, {1<<32 + 3, nil, impl.ErrRange}, {1, []int64{0}, impl.ErrRange}, {13, []int64{1}, impl.ErrRange}, {13, []int64{100000000000}, impl.ErrRange},
		{3, many, impl.ErrRange}, {12, many, impl.ErrRange}, {13, many, impl.ErrRange}, {3, slices.Repeat([]int64{0}, impl.MaxDeck+1), impl.ErrRange},
		// As many digits as wheels, and more.
		{3, []int64{100}, impl.ErrRange}, {3, []int64{-100}, impl.ErrRange}, {3, []int64{1000}, impl.ErrRange}, {2, []int64{10}, impl.ErrRange}, {2, []int64{-10}, impl.ErrRange}, {12, []int64{100000000000}, impl.ErrRange}, {12, []int64{-100000000000}, impl.ErrRange}, {12, []int64{1000000000000}, impl.ErrRange}, {3, []int64{math.MinInt64}, impl.ErrRange}, {3, []int64{math.MaxInt64}, impl.ErrRange}, {12, []int64{math.MinInt64}, impl.ErrRange}, {12, []int64{math.MaxInt64}, impl.ErrRange}, {12, []int64{0, math.MinInt64 + 1}, impl.ErrRange},
		{3, []int64{1, 2, 100}, impl.ErrRange}, {3, []int64{100, 1, 2}, impl.ErrRange}, {3, []int64{1, -100, 2}, impl.ErrRange},
		// The last wheel shows another digit, at the end, and after a number in the middle though not at the end.
		{3, []int64{99, 1}, impl.ErrFull}, {3, []int64{-99, -1}, impl.ErrFull}, {3, []int64{99, 1, -1}, impl.ErrFull}, {3, []int64{-99, -1, 1}, impl.ErrFull}, {3, []int64{99, 99}, impl.ErrFull}, {3, []int64{-99, -99}, impl.ErrFull}, {3, []int64{99, 99, -99, -99}, impl.ErrFull}, {3, []int64{50, 50}, impl.ErrFull}, {3, []int64{-50, -50}, impl.ErrFull}, {2, []int64{9, 1}, impl.ErrFull}, {2, []int64{9, 9}, impl.ErrFull}, {2, []int64{-9, -9}, impl.ErrFull}, {2, []int64{9, 1, -1}, impl.ErrFull}, {12, []int64{99999999999, 1}, impl.ErrFull}, {12, []int64{-99999999999, -1}, impl.ErrFull}, {12, []int64{99999999999, 99999999999}, impl.ErrFull}, {2, few, impl.ErrFull}, {3, slices.Repeat([]int64{-3}, impl.MaxDeck), impl.ErrFull},
		// A number behind it that has too many digits, or too many numbers, are told ahead of it.
		{3, []int64{99, 1, 100}, impl.ErrRange}, {3, []int64{-99, -1, math.MinInt64}, impl.ErrRange}, {3, []int64{99, 1, -1, 1000}, impl.ErrRange}, {2, many, impl.ErrRange}, {1, []int64{9, 9}, impl.ErrRange}, {3, append(slices.Repeat([]int64{99}, impl.MaxDeck), 1), impl.ErrRange}, {3, append(slices.Clone(few), 100), impl.ErrRange}, {2, append(slices.Clone(few[1:]), 10), impl.ErrRange},
	} {
		fails(t, x.code, impl.BalanceAfter, x.wheels, x.list)
		same(t, fmt.Sprintf("the plain balance of %v", x.list), fmt.Sprint(x.code), checkBalance(t, x.wheels, x.list))
	}
	codes := map[int64]int{}
	for _, wheels := range append(edges(), 4, 5, 6, 7, 8) {
		for _, n := range numbersToAdd() {
			for _, m := range []int64{0, 1, -1, 9, -9, 10, -99, 99, -n, n, math.MinInt64} {
				codes[checkBalance(t, wheels, []int64{n, m})]++
				codes[checkBalance(t, wheels, []int64{m, 1, n})]++
			}
			codes[checkBalance(t, wheels, []int64{n})]++
		}
		for _, count := range []int{0, 1, 39, 40, 41, 1000} {
			for _, n := range []int64{0, 1, -1, 2, -3, 9, -10, 100} {
				codes[checkBalance(t, wheels, slices.Repeat([]int64{n}, count))]++
			}
		}
	}
	same(t, "all codes of BalanceAfter", "true true true", codes[impl.OK] > 1000, codes[impl.ErrRange] > 1000, codes[impl.ErrFull] > 100)
}

// TestAllSmallBalances compares with the sums for all short lists of some numbers.
func TestAllSmallBalances(t *testing.T) {
	listsOf([]int64{-9, -5, -1, 0, 1, 4, 9}, 5, nil, func(list []int64) { checkBalance(t, 2, list) })
	listsOf([]int64{-99, -49, -1, 0, 50, 99, 100}, 4, nil, func(list []int64) { checkBalance(t, 3, list) })
	listsOf([]int64{-99999999999, -1, 0, 2, 99999999998, 99999999999}, 4, nil, func(list []int64) { checkBalance(t, 12, list) })
}

func TestCounterText(t *testing.T) {
	for _, text := range []string{"0", "9", "00", "097", "970", "007", "0000", "123456789012", "000000000000", "999999999999", "000000000001", "100000000000"} {
		same(t, "CounterText of "+text, text, impl.CounterText(showing(text)))
		same(t, text, "true", checkReadCounter(t, text))
	}
	for _, c := range wrongCounters() {
		same(t, fmt.Sprintf("CounterText(%v)", c), "", impl.CounterText(c))
	}
	same(t, "the lowest digit", "[2 1]", showing("12").Digits)
	c, ok := impl.ReadCounter("12")
	same(t, "the lowest digit is the first one", "[2 1] true", c.Digits, ok)
}

// wrongCounterTexts are texts that are none of counters.
func wrongCounterTexts() []string {
	return []string{
		"", " ", "-", "+", "a", ".", "-1", "+1", "-0", "+0", " 1", "1 ", "1 2", "12a", "a12", "1a2", "1.0", ".1", "1.", "1e3", "0x1", "0b1", "1_0", "_1", "1_", "1,0", "1-", "1+", "12\n", "\n12", "\t1", "1\x00", "\x00", "\xff", "1\xff", "/", ":", "1/", "1:", "0-1", "00-1",
		// Other digits, and runes of which the lowest byte is a digit.
		"\u0663", "1\u0663", "\u0130", "1\u0139", "\u0231\u0332", "\U00010130", "\uff11", "\u00b2", "\u0967",
		"0000000000000", "1234567890123", "9999999999999", "0000000000001", "99999999999999999999", "18446744073709551616", "-12345678901", "+12345678901", "12345678901 ", "12345678901a", "-999999999999",
		strings.Repeat("0", 1000), strings.Repeat("9", 1000), strings.Repeat(" ", 12), strings.Repeat("-", 12), "Inf", "NaN",
	}
}

func TestReadCounter(t *testing.T) {
	for _, s := range wrongCounterTexts() {
		same(t, fmt.Sprintf("%q", s), "{[]} false false", append(call(impl.ReadCounter, s), checkReadCounter(t, s))...)
	}
	for b := range 256 {
		s := string([]byte{byte(b)})
		isDigit := b >= '0' && b <= '9'
		same(t, fmt.Sprintf("the byte %d", b), fmt.Sprint(isDigit, isDigit, isDigit), checkReadCounter(t, s), checkReadCounter(t, "1"+s), checkReadCounter(t, s+"12345678901"))
		same(t, fmt.Sprintf("the byte %d and 12 digits", b), "false", checkReadCounter(t, s+"123456789012"))
	}
	for count := range 30 {
		same(t, fmt.Sprintf("%d digits", count), fmt.Sprint(count > 0 && count <= 12), checkReadCounter(t, strings.Repeat("7", count)))
		checkReadCounter(t, strings.Repeat("0", count))
	}
	right := 0
	listsOf([]byte("019-+ a/:"), 5, nil, func(text []byte) {
		if checkReadCounter(t, string(text)) {
			right++
		}
	})
	same(t, "short texts of counters", "363", right)
	for _, c := range rightCounters() {
		checkCounter(t, c)
	}
}

// TestP11 checks P11 for random counters and numbers: the number that is shown after an addition and the carry that is left are those of the sum, and a balance is the sum of its numbers.
func TestP11(t *testing.T) {
	random := rand.New(rand.NewPCG(11, 11))
	for range 20000 {
		wheels := 1 + random.IntN(12)
		c := shows(wheels, random.Int64N(tenTo(1+random.IntN(wheels))))
		n := random.Int64N(tenTo(1 + random.IntN(wheels)))
		if random.IntN(3) == 0 {
			n = tenTo(wheels) - 1 - valueOf(c) + oneIf(random.IntN(2) == 0 && valueOf(c) > 0)
		}
		same(t, "a right number", "0", checkOperands(t, c, n))
		checkThereAndBack(t, c, n)
		after, left, _ := impl.AddToCounter(c, n)
		number, code := impl.NumberShown(after)
		same(t, "the sum", fmt.Sprint(valueOf(c)+n, 0), number+oneIf(left)*tenTo(wheels), code)
		checkCounter(t, after)
		checkSplit(t, c, int64(random.IntN(wheels+2)))
	}
	codes := map[int64]int{}
	for range 20000 {
		wheels := 2 + random.IntN(11)
		var list []int64
		most := tenTo(random.IntN(wheels)) + oneIf(random.IntN(20) == 0)*tenTo(wheels)
		for range random.IntN(42) {
			list = append(list, random.Int64N(2*most+1)-most)
			if k := len(list); k > 1 && random.IntN(5) == 0 {
				list[k-1] = -list[k-2]
			}
		}
		codes[checkBalance(t, int64(wheels), list)]++
	}
	same(t, "all codes", "true true true", codes[impl.OK] > 3000, codes[impl.ErrRange] > 1000, codes[impl.ErrFull] > 1000)
}
