package tests

import (
	"math"
	"slices"
	"testing"

	"loop.example/rowmachines/impl"
)

// mostSummed is the greatest number of steps of sums that may be asked for.
const mostSummed = 1000

// eachBits calls see with rings of bits: all of few machines, and of each number of machines such as are the same at all places or at all but one, have two ones at any places, differ at each place, and drawn ones.
func eachBits(see func(row []int)) {
	for machines := 1; machines <= 7; machines++ {
		eachRow(machines, 0, 1, see)
	}
	draw := drawer()
	for machines := 1; machines <= impl.MaxBits; machines++ {
		for bit := range 2 {
			see(filled(machines, bit))
			see(differing(machines, bit))
			for place := range machines {
				see(with(filled(machines, bit), place, 1-bit))
			}
		}
		for place := range machines {
			see(with(with(filled(machines, 0), 0, 1), place, 1))
		}
		for range 15 {
			see(drawRow(draw, 2, machines))
		}
	}
}

// eachOfAllBits calls see with each ring of bits there is.
func eachOfAllBits(see func(row []int)) {
	for machines := 1; machines <= impl.MaxBits; machines++ {
		eachRow(machines, 0, 1, see)
	}
}

// eachBitsPair calls see with two rings of bits of as many machines: all of few machines, single ones at each two places, and drawn ones.
func eachBitsPair(see func(a, b []int)) {
	for machines := 1; machines <= 5; machines++ {
		eachRow(machines, 0, 1, func(a []int) {
			eachRow(machines, 0, 1, func(b []int) { see(slices.Clone(a), b) })
		})
	}
	draw := drawer()
	for machines := 1; machines <= impl.MaxBits; machines++ {
		noughts, ones := filled(machines, 0), filled(machines, 1)
		for place := range machines {
			for other := range machines {
				see(with(noughts, place, 1), with(noughts, other, 1))
				see(with(ones, place, 0), with(noughts, other, 1))
			}
		}
		for range 60 {
			row := drawRow(draw, 2, machines)
			see(row, drawRow(draw, 2, machines))
			see(row, noughts)
			see(row, ones)
			see(row, slices.Clone(row))
		}
	}
}

// eachNoBits calls see with rows that are no ring of bits, one thing wrong at a time.
func eachNoBits(see func(row []int)) {
	see(nil)
	see([]int{})
	for _, machines := range []int{impl.MaxBits + 1, impl.MaxBits + 2, 2 * impl.MaxBits, impl.MaxCells, 63, 64, 65, 1000} {
		see(filled(machines, 0))
		see(filled(machines, 1))
		see(differing(machines, 1))
	}
	for machines := 1; machines <= impl.MaxBits; machines++ {
		for place := range machines {
			for _, wrong := range append(beyond(0, 1), -2, 3) {
				see(with(filled(machines, 0), place, wrong))
				see(with(filled(machines, 1), place, wrong))
				see(with(differing(machines, 1), place, wrong))
			}
		}
	}
}

// summedMachineByMachine is a step as the document tells it: the ring is walked, and each machine asks both beside it.
func summedMachineByMachine(row []int) []int {
	next := []int{}
	for place := range row {
		left, right := place-1, place+1
		if left < 0 {
			left = len(row) - 1
		}
		if right == len(row) {
			right = 0
		}
		next = append(next, (row[left]+row[right])%2)
	}
	return next
}

// summedFarAway is a row of which each machine is the sum of both that are so many places away, gone to one place at a time.
func summedFarAway(row []int, places int) []int {
	next := []int{}
	for place := range row {
		left, right := place, place
		for range places {
			left = (left + len(row) - 1) % len(row)
			right = (right + 1) % len(row)
		}
		next = append(next, (row[left]+row[right])%2)
	}
	return next
}

// waysOfSteps tells for each number of steps up to most, and each number of these that go to the right, whether an odd number of ways leads there: the triangle of Pascal.
func waysOfSteps(most int) [][]bool {
	ways := [][]bool{{true}}
	for steps := 1; steps <= most; steps++ {
		next := make([]bool, steps+1)
		for toRight := range next {
			fewer := toRight > 0 && ways[steps-1][toRight-1]
			asMany := toRight < steps && ways[steps-1][toRight]
			next[toRight] = fewer != asMany
		}
		ways = append(ways, next)
	}
	return ways
}

// summedByWays is a row after so many steps without the steps between: each machine is the sum of those to which an odd number of ways of so many steps leads.
func summedByWays(row []int, ways []bool) []int {
	steps, machines := len(ways)-1, len(row)
	next := filled(machines, 0)
	for toRight, odd := range ways {
		if !odd {
			continue
		}
		away := (2*toRight - steps) % machines
		for place := range next {
			next[place] = (next[place] + row[(place+away+machines)%machines]) % 2
		}
	}
	return next
}

// addedPlaceByPlace is 1 at each place at which just one of both rows is.
func addedPlaceByPlace(a, b []int) []int {
	sum := []int{}
	for place := range a {
		sum = append(sum, asNumber(a[place] != b[place]))
	}
	return sum
}

// comesAgainByRows looks for each row among all those before it.
func comesAgainByRows(row []int) (int, int) {
	var before [][]int
	for now := row; ; now = summedMachineByMachine(now) {
		for first, earlier := range before {
			if slices.Equal(earlier, now) {
				return len(before), first
			}
		}
		before = append(before, now)
	}
}

func wantBits(t *testing.T, row []int, want bool) {
	t.Helper()
	if got := impl.BitsOk(row); got != want {
		t.Errorf("BitsOk(%v) = %v", row, got)
	}
}

func wantComesAgain(t *testing.T, row []int, steps, first int) {
	t.Helper()
	if gotSteps, gotFirst, ok := impl.ComesAgain(row); gotSteps != steps || gotFirst != first || !ok {
		t.Errorf("ComesAgain(%v) = %d, %d, %v, want %d, %d", row, gotSteps, gotFirst, ok, steps, first)
	}
}

func wantOnes(t *testing.T, row []int, want int) {
	t.Helper()
	if got := impl.OnesOf(row); got != want {
		t.Errorf("OnesOf(%v) = %d, want %d", row, got, want)
	}
}

// wantSummedRows fails unless a row goes through these in turn, and behind the last one comes to the one after as many steps as first again.
func wantSummedRows(t *testing.T, first int, rows ...[]int) {
	t.Helper()
	at := 0
	for steps := 0; steps <= mostSummed; steps++ {
		wantRow(t, impl.SummedAfter(rows[0], steps), rows[at], "SummedAfter", rows[0], steps)
		next := at + 1
		if next == len(rows) {
			next = first
		}
		wantRow(t, impl.SummedOf(rows[at]), rows[next], "SummedOf", rows[at])
		at = next
	}
	wantComesAgain(t, rows[0], len(rows), first)
}

func TestConstantsOfChapter10(t *testing.T) {
	if impl.MaxBits != 16 {
		t.Error(impl.MaxBits)
	}
}

// Promise 51: one machine is a ring of bits.
func TestOneMachineIsARingOfBits(t *testing.T) {
	for bit := -300; bit <= 300; bit++ {
		wantBits(t, []int{bit}, bit == 0 || bit == 1)
	}
}

// Promise 51: a row without its last machine is one, if it has two or more.
func TestRingOfBitsWithoutItsLastMachine(t *testing.T) {
	eachBits(func(row []int) {
		for machines := len(row); machines >= 1; machines-- {
			wantBits(t, row[:machines], true)
		}
	})
}

func TestRingsOfBitsOfFewAndManyMachines(t *testing.T) {
	wantBits(t, nil, false)
	for machines := 0; machines <= 70; machines++ {
		want := machines >= 1 && machines <= 16
		wantBits(t, filled(machines, 0), want)
		wantBits(t, filled(machines, 1), want)
		wantBits(t, differing(machines, 0), want)
	}
}

func TestBitsAreNoughtsAndOnes(t *testing.T) {
	for machines := 1; machines <= 5; machines++ {
		eachRow(machines, -1, 2, func(row []int) {
			wantBits(t, row, slices.Min(row) >= 0 && slices.Max(row) <= 1)
		})
	}
	eachOfAllBits(func(row []int) { wantBits(t, row, true) })
	eachNoBits(func(row []int) { wantBits(t, row, false) })
}

// Promise 52: after a step an even number are one.
func TestAfterAStepAnEvenNumberAreOne(t *testing.T) {
	eachOfAllBits(func(row []int) {
		summed := impl.SummedOf(row)
		if ones := impl.OnesOf(summed); len(summed) != len(row) || ones < 0 || ones%2 != 0 {
			t.Errorf("SummedOf(%v) = %v, with %d ones", row, summed, ones)
		}
	})
}

// Promise 52: of the row in the order from the last one to the first one it is so turned.
func TestSumsOfTurnedRows(t *testing.T) {
	eachOfAllBits(func(row []int) {
		wantRow(t, impl.SummedOf(reversed(row)), reversed(impl.SummedOf(row)), "SummedOf the turned", row)
	})
	eachBits(func(row []int) {
		for _, steps := range []int{0, 1, 2, 3, 7, 64, 999, mostSummed} {
			wantRow(t, impl.SummedAfter(reversed(row), steps), reversed(impl.SummedAfter(row, steps)), "SummedAfter, of the turned", row, steps)
		}
	})
}

// Where a ring of bits begins does not matter.
func TestSumsOfRingsBegunAnywhere(t *testing.T) {
	eachBits(func(row []int) {
		steps, first, _ := impl.ComesAgain(row)
		for from := range row {
			round := roundFrom(row, from)
			for _, after := range []int{0, 1, 5, 6, mostSummed} {
				wantRow(t, impl.SummedAfter(round, after), roundFrom(impl.SummedAfter(row, after), from), "SummedAfter", round, after)
			}
			wantComesAgain(t, round, steps, first)
		}
	})
}

func TestSumsMachineByMachine(t *testing.T) {
	eachOfAllBits(func(row []int) {
		wantRow(t, impl.SummedOf(row), summedMachineByMachine(row), "SummedOf", row)
	})
}

func TestSumsByHand(t *testing.T) {
	// One machine is both its neighbours.
	wantSummedRows(t, 0, []int{0})
	wantSummedRows(t, 1, []int{1}, []int{0})
	// Of two machines each has the other one on both sides.
	wantSummedRows(t, 0, []int{0, 0})
	for _, row := range [][]int{{0, 1}, {1, 0}, {1, 1}} {
		wantSummedRows(t, 1, row, []int{0, 0})
	}
	wantSummedRows(t, 1, []int{1, 0, 0}, []int{0, 1, 1})
	wantSummedRows(t, 1, []int{0, 1, 0}, []int{1, 0, 1})
	wantSummedRows(t, 1, []int{0, 0, 1}, []int{1, 1, 0})
	wantSummedRows(t, 0, []int{1, 1, 0})
	wantSummedRows(t, 1, []int{1, 1, 1}, []int{0, 0, 0})
	wantSummedRows(t, 2, []int{1, 0, 0, 0}, []int{0, 1, 0, 1}, []int{0, 0, 0, 0})
	wantSummedRows(t, 2, []int{1, 1, 0, 0}, []int{1, 1, 1, 1}, []int{0, 0, 0, 0})
	wantSummedRows(t, 1, []int{1, 0, 1, 0}, []int{0, 0, 0, 0})
	wantSummedRows(t, 2, []int{1, 1, 1, 0}, []int{1, 0, 1, 0}, []int{0, 0, 0, 0})
	wantSummedRows(t, 1, []int{0, 0, 1, 0, 0}, []int{0, 1, 0, 1, 0}, []int{1, 0, 0, 0, 1}, []int{1, 1, 0, 1, 1})
	wantSummedRows(t, 0, []int{0, 1, 0, 1, 0}, []int{1, 0, 0, 0, 1}, []int{1, 1, 0, 1, 1})
	wantSummedRows(t, 1, []int{1, 0, 0, 0, 0, 0}, []int{0, 1, 0, 0, 0, 1}, []int{0, 0, 1, 0, 1, 0})
	wantSummedRows(t, 0, []int{0, 0, 1, 0, 1, 0}, []int{0, 1, 0, 0, 0, 1})
	wantSummedRows(t, 1, []int{1, 0, 0, 0, 0, 0, 0},
		[]int{0, 1, 0, 0, 0, 0, 1}, []int{0, 0, 1, 0, 0, 1, 0}, []int{0, 1, 0, 1, 1, 0, 1}, []int{0, 0, 0, 1, 1, 0, 0},
		[]int{0, 0, 1, 1, 1, 1, 0}, []int{0, 1, 1, 0, 0, 1, 1}, []int{0, 1, 1, 1, 1, 1, 1})
	wantSummedRows(t, 4, []int{1, 0, 0, 0, 0, 0, 0, 0},
		[]int{0, 1, 0, 0, 0, 0, 0, 1}, []int{0, 0, 1, 0, 0, 0, 1, 0}, []int{0, 1, 0, 1, 0, 1, 0, 1}, filled(8, 0))
}

// A single 1 becomes one on both sides, which are the same machine in rings of one and of two.
func TestSumsOfASingleOne(t *testing.T) {
	for machines := 1; machines <= impl.MaxBits; machines++ {
		noughts := filled(machines, 0)
		for place := range machines {
			row := with(noughts, place, 1)
			left, right := (place+machines-1)%machines, (place+1)%machines
			want := noughts
			if left != right {
				want = with(with(noughts, left, 1), right, 1)
			}
			wantRow(t, impl.SummedOf(row), want, "SummedOf", row)
			wantRow(t, impl.SummedAfter(row, 1), want, "SummedAfter", row, 1)
		}
	}
}

// Promise 53: with one step more it is one step on.
func TestSummingGoesOnStepByStep(t *testing.T) {
	eachBits(func(row []int) {
		want := row
		for steps := 0; steps <= mostSummed; steps++ {
			got := impl.SummedAfter(row, steps)
			wantRow(t, got, want, "SummedAfter", row, steps)
			want = summedMachineByMachine(want)
			wantRow(t, impl.SummedOf(got), want, "one step on", row, steps)
		}
	})
}

// Promise 53: after a power of two steps each machine is the sum of both that are as many places away.
func TestAfterAPowerOfTwoStepsPlacesAreFar(t *testing.T) {
	eachBits(func(row []int) {
		for _, steps := range []int{1, 2, 4, 8, 16, 32, 64, 128, 256, 512} {
			wantRow(t, impl.SummedAfter(row, steps), summedFarAway(row, steps), "SummedAfter", row, steps)
		}
	})
}

func TestSumsByWays(t *testing.T) {
	ways := waysOfSteps(mostSummed)
	eachBits(func(row []int) {
		for _, steps := range []int{0, 1, 2, 3, 5, 6, 7, 15, 16, 17, 63, 255, 511, 512, 513, 768, 998, 999, mostSummed} {
			wantRow(t, impl.SummedAfter(row, steps), summedByWays(row, ways[steps]), "SummedAfter", row, steps)
		}
	})
}

// Promise 54: what sums become is the sum.
func TestWhatSumsBecomeIsTheSum(t *testing.T) {
	eachBitsPair(func(a, b []int) {
		sum := impl.AddedOf(a, b)
		wantBits(t, sum, true)
		wantRow(t, impl.SummedOf(sum), impl.AddedOf(impl.SummedOf(a), impl.SummedOf(b)), "SummedOf the sum of", a, b)
		for _, steps := range []int{0, 2, 7, 32, mostSummed} {
			both := impl.AddedOf(impl.SummedAfter(a, steps), impl.SummedAfter(b, steps))
			wantRow(t, impl.SummedAfter(sum, steps), both, "SummedAfter, of the sum of", a, b, steps)
		}
	})
}

// Promise 54: for both exchanged it is the same.
func TestAddedExchanged(t *testing.T) {
	eachBitsPair(func(a, b []int) {
		wantRow(t, impl.AddedOf(b, a), impl.AddedOf(a, b), "AddedOf, exchanged,", a, b)
	})
}

// Promise 54: a row and itself are at rest, and added to a sum a row goes out of it again.
func TestARowAndItselfAreAtRest(t *testing.T) {
	eachOfAllBits(func(row []int) {
		rest := filled(len(row), 0)
		wantRow(t, impl.AddedOf(row, row), rest, "AddedOf", row, row)
		wantRow(t, impl.AddedOf(row, rest), row, "AddedOf", row, rest)
	})
	eachBitsPair(func(a, b []int) {
		wantRow(t, impl.AddedOf(impl.AddedOf(a, b), b), a, "added twice", a, b)
	})
}

func TestAddedPlaceByPlace(t *testing.T) {
	eachBitsPair(func(a, b []int) {
		wantRow(t, impl.AddedOf(a, b), addedPlaceByPlace(a, b), "AddedOf", a, b)
	})
	cases := []struct{ a, b, want []int }{
		{[]int{0}, []int{0}, []int{0}},
		{[]int{0}, []int{1}, []int{1}},
		{[]int{1}, []int{1}, []int{0}},
		{[]int{1, 1, 0}, []int{0, 1, 0}, []int{1, 0, 0}},
		{[]int{1, 0, 1, 0}, []int{0, 0, 1, 1}, []int{1, 0, 0, 1}},
		{filled(16, 1), differing(16, 0), differing(16, 1)},
	}
	for _, c := range cases {
		wantRow(t, impl.AddedOf(c.a, c.b), c.want, "AddedOf", c.a, c.b)
	}
}

// Promise 55: after so many steps the row is as after the lesser number, and no two rows before are the same.
func TestRowsComeAgain(t *testing.T) {
	eachOfAllBits(func(row []int) {
		steps, first := comesAgainByRows(row)
		wantComesAgain(t, row, steps, first)
		if first < 0 || first >= steps || steps > mostSummed {
			t.Fatalf("%v comes again after %d, as after %d", row, steps, first)
		}
		wantRow(t, impl.SummedAfter(row, steps), impl.SummedAfter(row, first), "SummedAfter", row, steps, first)
		if first > 0 && slices.Equal(impl.SummedAfter(row, steps-1), impl.SummedAfter(row, first-1)) {
			t.Errorf("%v comes again one step before %d and %d", row, steps, first)
		}
	})
}

// Promise 55: a ring of a power of two machines is at rest after half as many steps, rounded up.
func TestRingsOfAPowerOfTwoComeToRest(t *testing.T) {
	for _, machines := range []int{1, 2, 4, 8, 16} {
		half := (machines + 1) / 2
		rest := filled(machines, 0)
		eachRow(machines, 0, 1, func(row []int) {
			for _, steps := range []int{half, half + 1, machines, mostSummed} {
				wantRow(t, impl.SummedAfter(row, steps), rest, "SummedAfter", row, steps)
			}
			steps, first, ok := impl.ComesAgain(row)
			if steps != first+1 || first > half || !ok {
				t.Errorf("ComesAgain(%v) = %d, %d, %v", row, steps, first, ok)
			}
			if first > 0 && impl.OnesOf(impl.SummedAfter(row, first-1)) == 0 {
				t.Errorf("%v is at rest one step before %d", row, first)
			}
		})
		// A single 1 takes just as long.
		for place := range machines {
			wantComesAgain(t, with(rest, place, 1), half+1, half)
		}
		wantComesAgain(t, rest, 1, 0)
	}
}

// Promise 55: a ring of an odd number of machines is as after a step again, if not as before: as before just if an even number are 1, as after each step.
func TestRingsOfAnOddNumberComeAgain(t *testing.T) {
	for machines := 1; machines <= impl.MaxBits; machines += 2 {
		eachRow(machines, 0, 1, func(row []int) {
			steps, first, ok := impl.ComesAgain(row)
			if first != sumOf(row)%2 || !ok {
				t.Fatalf("ComesAgain(%v) = %d, %d, %v", row, steps, first, ok)
			}
			wantRow(t, impl.SummedAfter(row, steps), impl.SummedAfter(row, first), "SummedAfter", row, steps, first)
		})
	}
}

// A single 1 takes longest of all rows: each row is a sum of such.
func TestASingleOneComesAgain(t *testing.T) {
	cases := []struct{ steps, first int }{
		{2, 1}, {2, 1}, {2, 1}, {3, 2}, {4, 1}, {3, 1}, {8, 1}, {5, 4},
		{8, 1}, {7, 1}, {32, 1}, {6, 2}, {64, 1}, {15, 1}, {16, 1}, {9, 8},
	}
	for before, c := range cases {
		machines := before + 1
		for place := range machines {
			wantComesAgain(t, with(filled(machines, 0), place, 1), c.steps, c.first)
		}
		eachRow(machines, 0, 1, func(row []int) {
			if steps, first, ok := impl.ComesAgain(row); steps > c.steps || first > c.first || !ok {
				t.Errorf("ComesAgain(%v) = %d, %d, %v", row, steps, first, ok)
			}
		})
	}
}

// Rows of 0 alone come again at once, and rows of 1 alone are such after a step: the sum of two ones.
func TestRowsThatAreTheSameAtAllPlaces(t *testing.T) {
	for machines := 1; machines <= impl.MaxBits; machines++ {
		noughts, ones := filled(machines, 0), filled(machines, 1)
		for _, steps := range []int{1, 2, 3, 16, 999, mostSummed} {
			wantRow(t, impl.SummedAfter(noughts, steps), noughts, "SummedAfter", noughts, steps)
			wantRow(t, impl.SummedAfter(ones, steps), noughts, "SummedAfter", ones, steps)
		}
		wantRow(t, impl.SummedAfter(ones, 0), ones, "SummedAfter", ones, 0)
		wantComesAgain(t, noughts, 1, 0)
		wantComesAgain(t, ones, 2, 1)
		wantOnes(t, noughts, 0)
		wantOnes(t, ones, machines)
	}
}

// Promise 56: ones are no more than machines, and of two rows added no more than of both together.
func TestOnesAreNoMoreThanMachines(t *testing.T) {
	eachOfAllBits(func(row []int) {
		ones := impl.OnesOf(row)
		if ones < 0 || ones > len(row) {
			t.Errorf("OnesOf(%v) = %d", row, ones)
		}
		summed := impl.SummedOf(row)
		if added := impl.OnesOf(impl.AddedOf(row, summed)); added < 0 || added > ones+impl.OnesOf(summed) {
			t.Errorf("%v and %v added have %d ones", row, summed, added)
		}
	})
	eachBitsPair(func(a, b []int) {
		shared := 0
		for place := range a {
			shared += a[place] * b[place]
		}
		wantOnes(t, impl.AddedOf(a, b), impl.OnesOf(a)+impl.OnesOf(b)-2*shared)
	})
}

func TestOnesCounted(t *testing.T) {
	eachOfAllBits(func(row []int) { wantOnes(t, row, sumOf(row)) })
	wantOnes(t, []int{0}, 0)
	wantOnes(t, []int{1}, 1)
	wantOnes(t, []int{1, 0, 1}, 2)
	wantOnes(t, []int{0, 0, 0, 0, 0, 0, 0, 0, 0, 0, 0, 0, 0, 0, 0, 1}, 1)
}

func TestSumsOfNone(t *testing.T) {
	steps := append(beyond(0, mostSummed), 0, 1, 2, mostSummed)
	eachNoBits(func(row []int) {
		wantNone(t, impl.SummedOf(row), "SummedOf", row)
		for _, many := range steps {
			wantNone(t, impl.SummedAfter(row, many), "SummedAfter", row, many)
		}
		if again, first, ok := impl.ComesAgain(row); again != -1 || first != -1 || ok {
			t.Errorf("ComesAgain(%v) = %d, %d, %v, want -1, -1, false", row, again, first, ok)
		}
		wantOnes(t, row, -1)
	})
}

func TestSumsByNoSteps(t *testing.T) {
	eachBits(func(row []int) {
		for _, steps := range append(beyond(0, mostSummed), -2, mostSummed+2, 1024, 1<<32) {
			wantNone(t, impl.SummedAfter(row, steps), "SummedAfter", row, steps)
		}
	})
}

// What is no ring of bits is added to none: neither to itself nor to a row of as many machines, on either side.
func TestAddedToNone(t *testing.T) {
	eachNoBits(func(row []int) {
		wantNone(t, impl.AddedOf(row, row), "AddedOf", row, row)
		for _, bit := range []int{0, 1} {
			other := filled(len(row), bit)
			wantNone(t, impl.AddedOf(row, other), "AddedOf", row, other)
			wantNone(t, impl.AddedOf(other, row), "AddedOf", other, row)
		}
	})
}

func TestRowsOfDifferentNumbersAreNotAdded(t *testing.T) {
	for machines := range impl.MaxBits + 3 {
		for others := range impl.MaxBits + 3 {
			if machines == others {
				continue
			}
			for bit := range 2 {
				a, b := filled(machines, bit), filled(others, 0)
				wantNone(t, impl.AddedOf(a, b), "AddedOf", a, b)
				wantNone(t, impl.AddedOf(b, a), "AddedOf", b, a)
			}
		}
	}
}

func TestSumsShareNoMemory(t *testing.T) {
	eachBits(func(row []int) {
		wantApart(t, "SummedOf", func(given [][]int) []int { return impl.SummedOf(given[0]) }, row)
		for _, steps := range []int{0, 1, 2, 7, mostSummed} {
			wantApart(t, "SummedAfter", func(given [][]int) []int { return impl.SummedAfter(given[0], steps) }, row)
		}
		for _, other := range [][]int{row, reversed(row), filled(len(row), 0), filled(len(row), 1)} {
			wantApart(t, "AddedOf", func(given [][]int) []int { return impl.AddedOf(given[0], given[1]) }, row, other)
		}
		wantApart(t, "AddedOf a row and itself", func(given [][]int) []int { return impl.AddedOf(given[0], given[0]) }, row)
		// What comes from one function is not what comes from another one.
		wantListsApart(t, "sums", func() [][]int {
			return [][]int{impl.SummedOf(row), impl.SummedAfter(row, 0), impl.SummedAfter(row, 1), impl.AddedOf(row, filled(len(row), 0)), impl.AddedOf(row, row)}
		})
	})
}

// What is asked of rows, such as are rings of bits or not, changes nothing of them, nor what is behind them in their memory.
func TestSumsChangeNoRow(t *testing.T) {
	wantUnchanged := func(row []int) {
		given := append(slices.Clone(row), 1, 0, 7)
		other := append(filled(len(row), 1), 0, 1, 7)
		before, otherBefore := slices.Clone(given), slices.Clone(other)
		asked, added := given[:len(row)], other[:len(row)]
		impl.BitsOk(asked)
		impl.SummedOf(asked)
		for _, steps := range []int{0, 1, mostSummed, math.MinInt} {
			impl.SummedAfter(asked, steps)
		}
		impl.AddedOf(asked, asked)
		impl.AddedOf(asked, added)
		impl.AddedOf(added, asked)
		impl.ComesAgain(asked)
		impl.OnesOf(asked)
		wantRow(t, given, before, "a row that was asked about", row)
		wantRow(t, other, otherBefore, "a row that was added to", row)
	}
	eachBits(wantUnchanged)
	eachNoBits(wantUnchanged)
}
