package tests

import (
	"math"
	"math/rand"
	"slices"
	"testing"
)

// drawer returns a source of the same numbers in each run, so that a failure comes again.
func drawer() *rand.Rand {
	return rand.New(rand.NewSource(20261118))
}

// reversed returns the numbers in the order from the last one to the first one.
func reversed(numbers []int) []int {
	out := slices.Clone(numbers)
	slices.Reverse(out)
	return out
}

// filled returns so many times the same number.
func filled(count, number int) []int {
	out := make([]int, count)
	for i := range out {
		out[i] = number
	}
	return out
}

// with returns the numbers with another one at a place.
func with(numbers []int, place, number int) []int {
	out := slices.Clone(numbers)
	out[place] = number
	return out
}

// beyond returns numbers below least and above most: the nearest, and such as overflow when reckoned with.
func beyond(least, most int) []int {
	return []int{least - 1, most + 1, least - 100, most + 100, math.MinInt, math.MaxInt, math.MinInt / 2, math.MaxInt/2 + 1}
}

// wantNone fails unless a result is nil or empty, which are the same value.
func wantNone(t *testing.T, got []int, what string, about ...any) {
	t.Helper()
	if len(got) != 0 {
		t.Errorf("%s%v = %v, want nil", what, about, got)
	}
}

// wantRow fails unless a result is the row that is wanted.
func wantRow(t *testing.T, got, want []int, what string, about ...any) {
	t.Helper()
	if !slices.Equal(got, want) {
		t.Errorf("%s%v = %v, want %v", what, about, got, want)
	}
}

// overwrite sets all numbers, those of the spare capacity too.
func overwrite(numbers []int, number int) {
	numbers = numbers[:cap(numbers)]
	for i := range numbers {
		numbers[i] = number
	}
}

// wantApart calls a function twice, for arguments with spare capacity. It fails if an argument, or what is behind it in
// its memory, is written to; if a result shares memory with an argument or with the other result; or if both differ.
func wantApart(t *testing.T, what string, call func(given [][]int) []int, arguments ...[]int) {
	t.Helper()
	given := make([][]int, len(arguments))
	before := make([][]int, len(arguments))
	for i, argument := range arguments {
		given[i] = append(slices.Clone(argument), 71, 72, 73)[:len(argument)]
		before[i] = slices.Clone(given[i][:cap(given[i])])
	}
	wantUnwritten := func() {
		t.Helper()
		for i := range given {
			if now := given[i][:cap(given[i])]; !slices.Equal(now, before[i]) {
				t.Errorf("%s: argument %d became %v from %v", what, i, now, before[i])
			}
		}
	}
	first := call(given)
	wantUnwritten()
	want := slices.Clone(first)
	if len(want) == 0 {
		t.Errorf("%s: no result for %v", what, arguments)
	}
	overwrite(first, 81)
	wantUnwritten()
	second := call(given)
	wantRow(t, second, want, what+" called again")
	overwrite(first, 82)
	wantRow(t, second, want, what+" after the first result was written to")
	for _, argument := range given {
		overwrite(argument, 83)
	}
	wantRow(t, second, want, what+" after the arguments were written to")
}

// wantListsApart calls a function that returns several lists twice. It fails if a list, or what is behind it in its memory, shares memory with another one of the same result or of the other one; or if both results differ.
func wantListsApart(t *testing.T, what string, call func() [][]int) {
	t.Helper()
	first, second := call(), call()
	if len(first) == 0 || len(first) != len(second) {
		t.Fatalf("%s: %d lists, and %d called again", what, len(first), len(second))
	}
	lists := slices.Concat(first, second)
	want := make([][]int, len(lists))
	for i, list := range lists {
		want[i] = slices.Clone(list)
	}
	for i := range first {
		wantRow(t, second[i], want[i], what+" called again, list", i)
	}
	for i, list := range lists {
		overwrite(list, 91+i)
		for j, other := range lists[i+1:] {
			wantRow(t, other, want[i+1+j], what+" after another list was written to, list", i+1+j)
		}
	}
	// A list of later on may reach back, with its spare capacity, into one that was looked at before.
	for i, list := range lists {
		wantRow(t, list, filled(len(list), 91+i), what+" after all lists were written to, list", i)
	}
	for i, spare := 0, first[:cap(first)]; i < len(spare); i++ {
		spare[i] = nil
	}
	for i, list := range second {
		if len(list) != len(want[i]) {
			t.Errorf("%s: list %d became %v after the other result was written to", what, i, list)
		}
	}
}
