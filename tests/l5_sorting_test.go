package tests

import (
	"math"
	"slices"
	"testing"

	"loop.example/rowmachines/impl"
)

// ascending returns so many numbers in order, each one more than the one before; the turned ones are in the opposite order.
func ascending(machines, from int) []int {
	row := make([]int, machines)
	for place := range row {
		row[place] = from + place
	}
	return row
}

// orderedRows are rows of so many machines that are in order, in the opposite order, of equal numbers, and of some equal numbers in both orders.
func orderedRows(machines int) [][]int {
	pairs := make([]int, machines)
	for place := range pairs {
		pairs[place] = place / 2
	}
	least, most := ascending(machines, 0), ascending(machines, impl.MaxKept-machines+1)
	return [][]int{
		least, most, reversed(least), reversed(most), pairs, reversed(pairs),
		filled(machines, 0), filled(machines, 50), filled(machines, impl.MaxKept),
		with(filled(machines, 0), 0, impl.MaxKept), with(filled(machines, impl.MaxKept), machines-1, 0),
	}
}

// eachKept calls see with rows that sort: all of few machines with as many numbers, and ordered and drawn ones of each number of machines, with all, some or no numbers equal.
func eachKept(see func(row []int)) {
	for machines := 1; machines <= 5; machines++ {
		eachRow(machines, 0, machines-1, see)
	}
	draw := drawer()
	for machines := 1; machines <= impl.MaxSorted; machines++ {
		for _, row := range orderedRows(machines) {
			see(row)
		}
		for range 10 {
			see(draw.Perm(machines))
			see(drawRow(draw, 2, machines))
			see(drawRow(draw, machines, machines))
			see(drawRow(draw, impl.MaxKept+1, machines))
		}
	}
}

// eachNotKept calls see with rows that are none, one thing wrong at a time.
func eachNotKept(see func(row []int)) {
	for _, row := range [][]int{nil, {}, filled(impl.MaxSorted+1, 0), ascending(impl.MaxSorted+1, 0), filled(impl.MaxCells, 1), filled(1000, impl.MaxKept)} {
		see(row)
	}
	for machines := 1; machines <= impl.MaxSorted; machines++ {
		for place := range machines {
			for _, wrong := range beyond(0, impl.MaxKept) {
				see(with(filled(machines, 7), place, wrong))
			}
		}
	}
}

// swappedPlaceByPlace is a step as the document tells it, asked for each place: it keeps the lesser number of its pair, or the greater one, or its own if it has no pair.
func swappedPlaceByPlace(row []int, step int) []int {
	next := []int{}
	for place, own := range row {
		isLeft := place%2 == step%2
		switch {
		case isLeft && place+1 < len(row):
			next = append(next, min(own, row[place+1]))
		case !isLeft && place > 0:
			next = append(next, max(row[place-1], own))
		default:
			next = append(next, own)
		}
	}
	return next
}

// astrayCounted returns how many pairs are astray, and how many are of equal numbers.
func astrayCounted(row []int) (int, int) {
	astray, equal := 0, 0
	for right := range row {
		for left := range right {
			switch {
			case row[left] > row[right]:
				astray++
			case row[left] == row[right]:
				equal++
			}
		}
	}
	return astray, equal
}

// boundsFor are bounds below all numbers of a row, above all, and each that is one of them or beside one.
func boundsFor(row []int) []int {
	bounds := []int{math.MinInt, -1, 0, impl.MaxKept, impl.MaxKept + 1, math.MaxInt}
	for _, number := range row {
		bounds = append(bounds, number-1, number, number+1)
	}
	slices.Sort(bounds)
	return slices.Compact(bounds)
}

func wantKept(t *testing.T, row []int, want bool) {
	t.Helper()
	if got := impl.KeptOk(row); got != want {
		t.Errorf("KeptOk(%v) = %v", row, got)
	}
}

func wantOrder(t *testing.T, row []int, want bool) {
	t.Helper()
	if got := impl.InOrderOk(row); got != want {
		t.Errorf("InOrderOk(%v) = %v", row, got)
	}
}

func wantStepsToOrder(t *testing.T, row []int, want int) {
	t.Helper()
	if got := impl.StepsToOrder(row); got != want {
		t.Errorf("StepsToOrder(%v) = %d, want %d", row, got, want)
	}
}

func wantAstray(t *testing.T, row []int, want int) {
	t.Helper()
	if got := impl.AstrayOf(row); got != want {
		t.Errorf("AstrayOf(%v) = %d, want %d", row, got, want)
	}
}

func TestConstantsOfChapter5(t *testing.T) {
	if impl.MaxSorted != 14 || impl.MaxKept != 99 {
		t.Error(impl.MaxSorted, impl.MaxKept)
	}
}

// Promise 20: one number is a row.
func TestOneNumberIsARow(t *testing.T) {
	for number := -2; number <= impl.MaxKept+2; number++ {
		wantKept(t, []int{number}, number >= 0 && number <= 99)
	}
}

// Promise 20: a row without its last machine is one.
func TestARowWithoutItsLastMachineIsARow(t *testing.T) {
	eachKept(func(row []int) {
		for left := slices.Clone(row); len(left) > 0; left = left[:len(left)-1] {
			wantKept(t, left, true)
		}
	})
}

func TestKeptLengths(t *testing.T) {
	for machines := 0; machines <= impl.MaxCells+2; machines++ {
		wantKept(t, filled(machines, 0), machines >= 1 && machines <= 14)
		wantKept(t, filled(machines, impl.MaxKept), machines >= 1 && machines <= 14)
	}
}

func TestRowsThatAreNotKept(t *testing.T) {
	eachNotKept(func(row []int) { wantKept(t, row, false) })
}

// Promise 21: steps keep all numbers.
func TestStepsKeepAllNumbers(t *testing.T) {
	eachKept(func(row []int) {
		for step := 0; step <= 3; step++ {
			got := impl.SwappedAt(row, step)
			wantRow(t, slices.Sorted(slices.Values(got)), slices.Sorted(slices.Values(row)), "the numbers of SwappedAt", row, step)
			wantRow(t, impl.SwappedAt(got, step), got, "the same step again", row, step)
			if before, after := impl.AstrayOf(row), impl.AstrayOf(got); after > before {
				t.Errorf("SwappedAt(%v, %d) = %v, with %d pairs astray after %d", row, step, got, after, before)
			}
		}
	})
}

func TestStepsSwapPairsByTurns(t *testing.T) {
	eachKept(func(row []int) {
		for _, step := range []int{0, 1, 2, 3, 30, 31, impl.MaxSteps - 1, impl.MaxSteps} {
			wantRow(t, impl.SwappedAt(row, step), swappedPlaceByPlace(row, step), "SwappedAt", row, step)
		}
	})
	row := []int{9, 3, 99, 0, 7, 7, 1}
	for step := 0; step <= impl.MaxSteps; step++ {
		wantRow(t, impl.SwappedAt(row, step), swappedPlaceByPlace(row, step), "SwappedAt", row, step)
	}
}

func TestSwappedByHand(t *testing.T) {
	cases := []struct{ row, even, odd []int }{
		{[]int{3, 1, 2, 0}, []int{1, 3, 0, 2}, []int{3, 1, 2, 0}},
		{[]int{3, 2, 1, 0}, []int{2, 3, 0, 1}, []int{3, 1, 2, 0}},
		// The last machine of an odd number of them has no pair in even steps, the first one none in odd steps.
		{[]int{3, 2, 1}, []int{2, 3, 1}, []int{3, 1, 2}},
		{[]int{5, 4, 3, 2, 1}, []int{4, 5, 2, 3, 1}, []int{5, 3, 4, 1, 2}},
		{[]int{7}, []int{7}, []int{7}},
		{[]int{99, 0}, []int{0, 99}, []int{99, 0}},
		{[]int{0, 99}, []int{0, 99}, []int{0, 99}},
		{[]int{4, 4, 4}, []int{4, 4, 4}, []int{4, 4, 4}},
		{[]int{2, 1, 2, 1, 1}, []int{1, 2, 1, 2, 1}, []int{2, 1, 2, 1, 1}},
	}
	for _, c := range cases {
		for step := 0; step < impl.MaxSteps; step += 2 {
			wantRow(t, impl.SwappedAt(c.row, step), c.even, "SwappedAt", c.row, step)
			wantRow(t, impl.SwappedAt(c.row, step+1), c.odd, "SwappedAt", c.row, step+1)
		}
		wantRow(t, impl.SwappedAt(c.row, impl.MaxSteps), c.even, "SwappedAt", c.row, impl.MaxSteps)
	}
}

// Promise 22: with one step more it is one step on.
func TestSortingGoesOnStepByStep(t *testing.T) {
	eachKept(func(row []int) {
		want := row
		for steps := 0; steps <= impl.MaxSteps; steps++ {
			got := impl.AfterSteps(row, steps)
			wantRow(t, got, want, "AfterSteps", row, steps)
			if steps < impl.MaxSteps {
				wantRow(t, impl.AfterSteps(row, steps+1), impl.SwappedAt(got, steps), "one step on", row, steps)
			}
			want = swappedPlaceByPlace(want, steps)
		}
	})
}

// Promise 22: after as many steps as machines all is in order.
func TestAfterAsManyStepsAsMachinesAllIsInOrder(t *testing.T) {
	eachKept(func(row []int) {
		want := slices.Sorted(slices.Values(row))
		for steps := len(row); steps <= impl.MaxSteps; steps++ {
			got := impl.AfterSteps(row, steps)
			wantRow(t, got, want, "AfterSteps", row, steps)
			wantOrder(t, got, true)
		}
	})
}

func TestAllRowsOfNoughtsAndOnesAreSorted(t *testing.T) {
	for machines := 1; machines <= impl.MaxSorted; machines++ {
		eachRow(machines, 0, 1, func(row []int) {
			wantRow(t, impl.AfterSteps(row, machines), slices.Sorted(slices.Values(row)), "AfterSteps", row, machines)
		})
	}
}

func TestAfterStepsByHand(t *testing.T) {
	cases := []struct{ rows [][]int }{
		{[][]int{{4, 3, 2, 1}, {3, 4, 1, 2}, {3, 1, 4, 2}, {1, 3, 2, 4}, {1, 2, 3, 4}}},
		{[][]int{{5, 4, 3, 2, 1}, {4, 5, 2, 3, 1}, {4, 2, 5, 1, 3}, {2, 4, 1, 5, 3}, {2, 1, 4, 3, 5}, {1, 2, 3, 4, 5}}},
		{[][]int{{3, 2, 1}, {2, 3, 1}, {2, 1, 3}, {1, 2, 3}}},
		{[][]int{{1, 3, 2}, {1, 3, 2}, {1, 2, 3}}},
		{[][]int{{99, 0}, {0, 99}}},
		{[][]int{{0}}},
		{[][]int{{2, 2, 1, 1}, {2, 2, 1, 1}, {2, 1, 2, 1}, {1, 2, 1, 2}, {1, 1, 2, 2}}},
		{[][]int{{6, 6, 6}}},
	}
	for _, c := range cases {
		row := c.rows[0]
		for steps := 0; steps <= impl.MaxSteps; steps++ {
			want := c.rows[min(steps, len(c.rows)-1)]
			wantRow(t, impl.AfterSteps(row, steps), want, "AfterSteps", row, steps)
		}
		wantStepsToOrder(t, row, len(c.rows)-1)
	}
}

// Promise 23: in order nothing is astray.
func TestInOrderNothingIsAstray(t *testing.T) {
	eachKept(func(row []int) {
		ordered := impl.InOrderOk(row)
		if ordered != slices.IsSorted(row) {
			t.Errorf("InOrderOk(%v) = %v", row, ordered)
		}
		if astray := impl.AstrayOf(row); ordered != (astray == 0) {
			t.Errorf("InOrderOk(%v) = %v, with %d pairs astray", row, ordered, astray)
		}
		if ordered {
			wantRow(t, impl.SwappedAt(row, 0), row, "SwappedAt", row, 0)
			wantRow(t, impl.SwappedAt(row, 1), row, "SwappedAt", row, 1)
		}
	})
}

func TestInOrderByHand(t *testing.T) {
	for _, row := range [][]int{{0}, {99}, {1, 2}, {2, 2}, {1, 1, 2}, {0, 0, 99, 99}, ascending(14, 0), ascending(14, 86), filled(14, 99)} {
		wantOrder(t, row, true)
		wantStepsToOrder(t, row, 0)
		wantAstray(t, row, 0)
	}
	for _, row := range [][]int{{2, 1}, {99, 0}, {1, 2, 1}, {1, 0, 2}, {3, 3, 2}, with(ascending(14, 0), 13, 11), with(ascending(14, 1), 0, 3)} {
		wantOrder(t, row, false)
	}
}

// Promise 24: no row takes longer than it is long.
func TestNoRowTakesLongerThanItIsLong(t *testing.T) {
	wantFirst := func(row []int) {
		steps := impl.StepsToOrder(row)
		if steps < 0 || steps > len(row) {
			t.Fatalf("StepsToOrder(%v) = %d", row, steps)
		}
		wantOrder(t, impl.AfterSteps(row, steps), true)
		if steps > 0 {
			wantOrder(t, impl.AfterSteps(row, steps-1), false)
		}
		first, now := 0, row
		for !slices.IsSorted(now) {
			now = swappedPlaceByPlace(now, first)
			first++
		}
		wantStepsToOrder(t, row, first)
	}
	eachKept(wantFirst)
	for machines := 6; machines <= 10; machines++ {
		eachRow(machines, 0, 1, wantFirst)
	}
}

func TestStepsToOrderByHand(t *testing.T) {
	cases := []struct {
		row  []int
		want int
	}{
		{[]int{7}, 0},
		{[]int{1, 2}, 0},
		{[]int{2, 1}, 1},
		{[]int{2, 1, 3}, 1},
		{[]int{1, 3, 2}, 2},
		{[]int{2, 3, 1}, 3},
		{[]int{3, 1, 2}, 2},
		{[]int{1, 1, 0}, 3},
		{[]int{1, 0, 0}, 2},
		{[]int{0, 2, 1, 3}, 2},
		{[]int{99, 0, 99, 0}, 2},
	}
	for _, c := range cases {
		wantStepsToOrder(t, c.row, c.want)
	}
}

// In the opposite order a row of three or more takes just as long as it is.
func TestRowsInTheOppositeOrder(t *testing.T) {
	for machines := 1; machines <= impl.MaxSorted; machines++ {
		row := reversed(ascending(machines, impl.MaxKept-machines+1))
		want := machines
		if machines <= 2 {
			want = machines - 1
		}
		wantStepsToOrder(t, row, want)
		wantAstray(t, row, machines*(machines-1)/2)
		wantOrder(t, row, machines == 1)
		wantRow(t, impl.AfterSteps(row, machines), reversed(row), "AfterSteps", row, machines)
	}
}

func TestRowsOfEqualNumbers(t *testing.T) {
	for machines := 1; machines <= impl.MaxSorted; machines++ {
		for _, number := range []int{0, 1, 50, impl.MaxKept} {
			row := filled(machines, number)
			wantOrder(t, row, true)
			wantStepsToOrder(t, row, 0)
			wantAstray(t, row, 0)
			wantRow(t, impl.AfterSteps(row, impl.MaxSteps), row, "AfterSteps", row, impl.MaxSteps)
			wantRow(t, impl.BoundsOf(row, number), filled(machines, 1), "BoundsOf", row, number)
			wantRow(t, impl.BoundsOf(row, number+1), filled(machines, 0), "BoundsOf", row, number+1)
		}
	}
}

// Promise 25: noughts and ones suffice.
func TestNoughtsAndOnesSuffice(t *testing.T) {
	eachKept(func(row []int) {
		for _, bound := range boundsFor(row) {
			noughtsAndOnes := impl.BoundsOf(row, bound)
			for steps := 0; steps <= len(row); steps++ {
				got := impl.AfterSteps(noughtsAndOnes, steps)
				wantRow(t, got, impl.BoundsOf(impl.AfterSteps(row, steps), bound), "the bounds after steps", row, bound, steps)
				if len(got) != len(row) {
					t.Fatalf("BoundsOf(%v, %d) = %v, which is no such row", row, bound, noughtsAndOnes)
				}
			}
		}
	})
}

func TestBoundsAreToldForEachMachine(t *testing.T) {
	eachKept(func(row []int) {
		for _, bound := range boundsFor(row) {
			want := filled(len(row), 0)
			for place, number := range row {
				if number >= bound {
					want[place] = 1
				}
			}
			wantRow(t, impl.BoundsOf(row, bound), want, "BoundsOf", row, bound)
		}
	})
}

func TestBoundsByHand(t *testing.T) {
	cases := []struct {
		row   []int
		bound int
		want  []int
	}{
		{[]int{3, 1, 2}, 2, []int{1, 0, 1}},
		{[]int{3, 1, 2}, 1, []int{1, 1, 1}},
		{[]int{3, 1, 2}, 3, []int{1, 0, 0}},
		{[]int{3, 1, 2}, 4, []int{0, 0, 0}},
		{[]int{3, 1, 2}, 0, []int{1, 1, 1}},
		{[]int{0, 99}, 0, []int{1, 1}},
		{[]int{0, 99}, 1, []int{0, 1}},
		{[]int{0, 99}, 99, []int{0, 1}},
		{[]int{0, 99}, 100, []int{0, 0}},
		{[]int{0, 99}, -1, []int{1, 1}},
		{[]int{0, 99}, math.MinInt, []int{1, 1}},
		{[]int{0, 99}, math.MaxInt, []int{0, 0}},
		{[]int{5, 7, 5, 5}, 7, []int{0, 1, 0, 0}},
	}
	for _, c := range cases {
		wantRow(t, impl.BoundsOf(c.row, c.bound), c.want, "BoundsOf", c.row, c.bound)
	}
}

// Promise 26: at most all pairs are astray.
func TestAtMostAllPairsAreAstray(t *testing.T) {
	eachKept(func(row []int) {
		all := len(row) * (len(row) - 1) / 2
		astray, other := impl.AstrayOf(row), impl.AstrayOf(reversed(row))
		if astray < 0 || astray > all || astray+other > all {
			t.Errorf("AstrayOf(%v) = %d, and %d turned, of %d pairs", row, astray, other, all)
		}
		if steps := impl.StepsToOrder(row); steps > astray+1 {
			t.Errorf("StepsToOrder(%v) = %d, with %d pairs astray", row, steps, astray)
		}
		want, equal := astrayCounted(row)
		wantAstray(t, row, want)
		// A pair of different numbers is astray from one side, and just from one.
		wantAstray(t, reversed(row), all-equal-want)
	})
}

func TestAstrayByHand(t *testing.T) {
	cases := []struct {
		row  []int
		want int
	}{
		{[]int{4}, 0}, {[]int{1, 2}, 0}, {[]int{2, 1}, 1}, {[]int{2, 2}, 0},
		{[]int{3, 1, 2, 0}, 5}, {[]int{2, 2, 1}, 2}, {[]int{2, 1, 1}, 2}, {[]int{2, 1, 2}, 1},
		// The greater one of a pair may be far away.
		{[]int{1, 2, 3, 0}, 3}, {[]int{99, 1, 2, 3}, 3}, {[]int{0, 99, 0, 99, 0}, 3},
	}
	for _, c := range cases {
		wantAstray(t, c.row, c.want)
	}
}

func TestSortingOfNone(t *testing.T) {
	steps := append(beyond(0, impl.MaxSteps), 0, 1, impl.MaxSteps)
	bounds := []int{math.MinInt, -1, 0, 1, 7, impl.MaxKept, math.MaxInt}
	eachNotKept(func(row []int) {
		for _, step := range steps {
			wantNone(t, impl.SwappedAt(row, step), "SwappedAt", row, step)
			wantNone(t, impl.AfterSteps(row, step), "AfterSteps", row, step)
		}
		for _, bound := range bounds {
			wantNone(t, impl.BoundsOf(row, bound), "BoundsOf", row, bound)
		}
		wantOrder(t, row, false)
		wantStepsToOrder(t, row, -1)
		wantAstray(t, row, -1)
	})
}

func TestSortingByNoSteps(t *testing.T) {
	eachKept(func(row []int) {
		for _, steps := range append(beyond(0, impl.MaxSteps), -2, impl.MaxSteps+2) {
			wantNone(t, impl.SwappedAt(row, steps), "SwappedAt", row, steps)
			wantNone(t, impl.AfterSteps(row, steps), "AfterSteps", row, steps)
		}
	})
}

func TestSortingSharesNoMemory(t *testing.T) {
	eachKept(func(row []int) {
		for _, steps := range []int{0, 1, 2, len(row), impl.MaxSteps - 1, impl.MaxSteps} {
			wantApart(t, "SwappedAt", func(given [][]int) []int { return impl.SwappedAt(given[0], steps) }, row)
			wantApart(t, "AfterSteps", func(given [][]int) []int { return impl.AfterSteps(given[0], steps) }, row)
		}
		for _, bound := range []int{math.MinInt, 1, row[0], math.MaxInt} {
			wantApart(t, "BoundsOf", func(given [][]int) []int { return impl.BoundsOf(given[0], bound) }, row)
		}
	})
	// What is kept from one function is not what another one writes to.
	row := []int{1, 2, 3}
	swapped, after, bounds := impl.SwappedAt(row, 0), impl.AfterSteps(row, 0), impl.BoundsOf(row, 2)
	overwrite(swapped, math.MinInt)
	wantRow(t, after, row, "AfterSteps after the result of SwappedAt was written to")
	overwrite(after, math.MinInt)
	wantRow(t, bounds, []int{0, 1, 1}, "BoundsOf after the result of AfterSteps was written to")
}

// What is asked of a row, one that is ok or not, changes nothing of it, nor what is behind it in its memory.
func TestSortingChangesNoRow(t *testing.T) {
	wantUnchanged := func(row []int) {
		given := append(slices.Clone(row), 2, 1, 0)
		before := slices.Clone(given)
		asked := given[:len(row)]
		impl.KeptOk(asked)
		impl.InOrderOk(asked)
		impl.StepsToOrder(asked)
		impl.AstrayOf(asked)
		impl.SwappedAt(asked, 0)
		impl.SwappedAt(asked, 1)
		impl.AfterSteps(asked, impl.MaxSteps)
		impl.AfterSteps(asked, -1)
		impl.BoundsOf(asked, 1)
		wantRow(t, given, before, "a row that was asked about", row)
	}
	eachKept(wantUnchanged)
	eachNotKept(wantUnchanged)
}
