package tests

import (
	"math"
	"math/rand"
	"slices"
	"testing"

	"loop.example/rowmachines/impl"
)

// block returns a ring of so many places with cars one behind the other, from a place on.
func block(places, from, cars int) []int {
	ring := filled(places, 0)
	for car := range cars {
		ring[(from+car)%places] = 1
	}
	return ring
}

// blocks returns a ring of so many places with blocks of cars, and as many free places as told behind each.
func blocks(places, cars, free int) []int {
	ring := filled(places, 0)
	for place := range ring {
		ring[place] = asNumber(place%(cars+free) < cars)
	}
	return ring
}

// drawCars returns a ring of so many places with so many cars, which are at drawn ones.
func drawCars(draw *rand.Rand, places, cars int) []int {
	ring := filled(places, 0)
	for _, place := range draw.Perm(places)[:cars] {
		ring[place] = 1
	}
	return ring
}

// aboutHalf returns half as many cars as places, one less and one more, as far as there are so many, and of an odd number of places both halves.
func aboutHalf(places int) []int {
	var list []int
	for cars := max(places/2-1, 0); cars <= min((places+1)/2+1, places); cars++ {
		list = append(list, cars)
	}
	return list
}

// eachCars calls see with rings of places: all of few places, and of each number of places such without cars, full ones, single cars and single free places, blocks of each length from each place on, several blocks, and drawn ones, also such of which about half of the places have a car.
func eachCars(see func(row []int)) {
	for places := 1; places <= 7; places++ {
		eachRow(places, 0, 1, see)
	}
	draw := drawer()
	for places := 1; places <= impl.MaxBits; places++ {
		see(filled(places, 0))
		see(filled(places, 1))
		for from := range places {
			for cars := 1; cars < places; cars++ {
				see(block(places, from, cars))
			}
		}
		for cars := 1; cars <= 4; cars++ {
			for free := 1; free <= 4; free++ {
				see(blocks(places, cars, free))
			}
		}
		for range 10 {
			see(drawRow(draw, 2, places))
			for _, cars := range aboutHalf(places) {
				see(drawCars(draw, places, cars))
			}
		}
	}
}

// stepsFor returns the first steps of a ring of so many places, half as many as places and those beside it, and the last steps that may be.
func stepsFor(places int) []int {
	return []int{0, 1, 2, max(places/2-1, 0), places / 2, places/2 + 1, impl.MaxSteps - 1, impl.MaxSteps}
}

// nextTo returns the place next to one.
func nextTo(row []int, place int) int {
	if place == len(row)-1 {
		return 0
	}
	return place + 1
}

// drivenCarByCar is a step as the document tells it: each car looks at the next place, and is put there or where it was.
func drivenCarByCar(row []int) []int {
	next := filled(len(row), 0)
	for place, car := range row {
		if car == 0 {
			continue
		}
		to := nextTo(row, place)
		if row[to] == 1 {
			to = place
		}
		next[to] = 1
	}
	return next
}

// carsGo is rule 184, for the left neighbour, the place itself and the right neighbour.
var carsGo = []int{0, 0, 0, 1, 1, 1, 0, 1}

// drivenLaidOut is a ring after so many steps of chapter 1: it is laid out as a row, with as many places more on both sides as steps, so that nothing from beyond the ends comes to the middle.
func drivenLaidOut(row []int, steps int) []int {
	var long []int
	for place := -steps; place < len(row)+steps; place++ {
		at := place % len(row)
		if at < 0 {
			at += len(row)
		}
		long = append(long, row[at])
	}
	return impl.RunOf(long, carsGo, 2, steps)[steps : steps+len(row)]
}

// drivenByCarsAhead is a ring after so many steps without the steps between: a car goes a place in each step, but no farther than to one place behind where the next car was one step before. So each car ahead, up to as many as steps, bounds it by two places more.
func drivenByCarsAhead(row []int, steps int) []int {
	var cars []int
	for place, car := range row {
		if car == 1 {
			cars = append(cars, place)
		}
	}
	next := filled(len(row), 0)
	for number := range cars {
		farthest := math.MaxInt
		for ahead := 0; ahead <= steps; ahead++ {
			rounds, other := (number+ahead)/len(cars), (number+ahead)%len(cars)
			farthest = min(farthest, cars[other]+rounds*len(row)+steps-2*ahead)
		}
		next[farthest%len(row)]++
	}
	return next
}

// flowCounted counts the cars of which the next place is free.
func flowCounted(row []int) int {
	flow := 0
	for place, car := range row {
		if car == 1 && row[nextTo(row, place)] == 0 {
			flow++
		}
	}
	return flow
}

// endCounted takes each car away with a free place, as long as there are both.
func endCounted(row []int) int {
	cars, free := 0, 0
	for _, car := range row {
		if car == 1 {
			cars++
		} else {
			free++
		}
	}
	end := 0
	for cars > end && free > end {
		end++
	}
	return end
}

// flowingCounted steps until the flow is the one in the end.
func flowingCounted(row []int) int {
	steps := 0
	for now := row; flowCounted(now) != endCounted(row); now = drivenCarByCar(now) {
		steps++
	}
	return steps
}

// freePlaceByPlace is a ring from its last place on, with a car for each free place.
func freePlaceByPlace(row []int) []int {
	free := []int{}
	for place := len(row) - 1; place >= 0; place-- {
		free = append(free, asNumber(row[place] == 0))
	}
	return free
}

func wantNumber(t *testing.T, got, want int, what string, row []int) {
	t.Helper()
	if got != want {
		t.Errorf("%s(%v) = %d, want %d", what, row, got, want)
	}
}

func wantFlows(t *testing.T, row []int, flow, end, flowing int) {
	t.Helper()
	wantNumber(t, impl.FlowOf(row), flow, "FlowOf", row)
	wantNumber(t, impl.EndFlow(row), end, "EndFlow", row)
	wantNumber(t, impl.FlowingAfter(row), flowing, "FlowingAfter", row)
}

// wantDrivenRows fails unless a ring goes through these in turn, and behind the last one comes to the one after as many steps as first again.
func wantDrivenRows(t *testing.T, first int, rows ...[]int) {
	t.Helper()
	at := 0
	for steps := 0; steps <= impl.MaxSteps; steps++ {
		wantRow(t, impl.DrivenAfter(rows[0], steps), rows[at], "DrivenAfter", rows[0], steps)
		next := at + 1
		if next == len(rows) {
			next = first
		}
		wantRow(t, impl.DrivenOf(rows[at]), rows[next], "DrivenOf", rows[at])
		at = next
	}
}

// Promise 57: no car is lost, and as many places are changed as twice the flow.
func TestNoCarIsLost(t *testing.T) {
	eachOfAllBits(func(row []int) {
		driven := impl.DrivenOf(row)
		if len(driven) != len(row) {
			t.Fatalf("DrivenOf(%v) = %v", row, driven)
		}
		wantNumber(t, impl.OnesOf(driven), sumOf(row), "OnesOf a step of", row)
		changed := 0
		for place, car := range row {
			changed += asNumber(car != driven[place])
		}
		wantNumber(t, changed, 2*impl.FlowOf(row), "places changed in a step of", row)
	})
	eachCars(func(row []int) {
		for steps := 0; steps <= impl.MaxSteps; steps++ {
			wantNumber(t, impl.OnesOf(impl.DrivenAfter(row, steps)), sumOf(row), "OnesOf some steps of", row)
		}
	})
}

func TestCarsCarByCar(t *testing.T) {
	eachOfAllBits(func(row []int) {
		wantRow(t, impl.DrivenOf(row), drivenCarByCar(row), "DrivenOf", row)
	})
}

func TestCarsByHand(t *testing.T) {
	// One place is its own next one.
	wantDrivenRows(t, 0, []int{0})
	wantDrivenRows(t, 0, []int{1})
	// Of two places each is next to the other one.
	wantDrivenRows(t, 0, []int{0, 0})
	wantDrivenRows(t, 0, []int{1, 1})
	wantDrivenRows(t, 0, []int{1, 0}, []int{0, 1})
	wantDrivenRows(t, 0, []int{1, 0, 0}, []int{0, 1, 0}, []int{0, 0, 1})
	wantDrivenRows(t, 0, []int{1, 1, 0}, []int{1, 0, 1}, []int{0, 1, 1})
	wantDrivenRows(t, 1, []int{1, 1, 0, 0}, []int{1, 0, 1, 0}, []int{0, 1, 0, 1})
	wantDrivenRows(t, 1, []int{1, 0, 0, 1}, []int{0, 1, 0, 1}, []int{1, 0, 1, 0})
	wantDrivenRows(t, 0, []int{1, 1, 1, 0}, []int{1, 1, 0, 1}, []int{1, 0, 1, 1}, []int{0, 1, 1, 1})
	wantDrivenRows(t, 1, []int{1, 1, 0, 0, 0}, []int{1, 0, 1, 0, 0}, []int{0, 1, 0, 1, 0}, []int{0, 0, 1, 0, 1}, []int{1, 0, 0, 1, 0}, []int{0, 1, 0, 0, 1})
	wantDrivenRows(t, 2, []int{1, 1, 1, 0, 0, 0}, []int{1, 1, 0, 1, 0, 0}, []int{1, 0, 1, 0, 1, 0}, []int{0, 1, 0, 1, 0, 1})
	// Two blocks.
	wantDrivenRows(t, 0, []int{1, 1, 0, 1, 1, 0}, []int{1, 0, 1, 1, 0, 1}, []int{0, 1, 1, 0, 1, 1})
	wantDrivenRows(t, 1, []int{1, 1, 0, 0, 1, 1, 0, 0}, []int{1, 0, 1, 0, 1, 0, 1, 0}, []int{0, 1, 0, 1, 0, 1, 0, 1})
	wantDrivenRows(t, 3, []int{1, 1, 1, 0, 0, 1, 0, 0},
		[]int{1, 1, 0, 1, 0, 0, 1, 0}, []int{1, 0, 1, 0, 1, 0, 0, 1}, []int{0, 1, 0, 1, 0, 1, 0, 1}, []int{1, 0, 1, 0, 1, 0, 1, 0})
}

func TestFlowsByHand(t *testing.T) {
	cases := []struct {
		row                []int
		flow, end, flowing int
	}{
		{[]int{0}, 0, 0, 0},
		{[]int{1}, 0, 0, 0},
		{[]int{0, 0}, 0, 0, 0},
		{[]int{1, 0}, 1, 1, 0},
		{[]int{0, 1}, 1, 1, 0},
		{[]int{1, 1}, 0, 0, 0},
		{[]int{1, 0, 0}, 1, 1, 0},
		{[]int{0, 1, 1}, 1, 1, 0},
		{[]int{1, 1, 0, 0}, 1, 2, 1},
		{[]int{1, 0, 0, 1}, 1, 2, 1},
		{[]int{0, 1, 0, 1}, 2, 2, 0},
		{[]int{1, 1, 0, 0, 0}, 1, 2, 1},
		{[]int{1, 1, 0, 1, 0}, 2, 2, 0},
		{[]int{1, 1, 1, 0, 0, 0}, 1, 3, 2},
		{[]int{1, 1, 0, 1, 1, 0}, 2, 2, 0},
		{[]int{1, 1, 0, 0, 1, 1, 0, 0}, 2, 4, 1},
		{[]int{1, 1, 1, 0, 0, 1, 0, 0}, 2, 4, 3},
		{[]int{1, 1, 1, 1, 1, 1, 1, 1, 0, 0, 0, 0, 0, 0, 0, 0}, 1, 8, 7},
	}
	for _, c := range cases {
		wantFlows(t, c.row, c.flow, c.end, c.flowing)
	}
}

// Promise 58: with one step more it is one step on.
func TestDrivingGoesOnStepByStep(t *testing.T) {
	eachCars(func(row []int) {
		want := row
		for steps := 0; steps <= impl.MaxSteps; steps++ {
			got := impl.DrivenAfter(row, steps)
			wantRow(t, got, want, "DrivenAfter", row, steps)
			want = drivenCarByCar(want)
			wantRow(t, impl.DrivenOf(got), want, "one step on", row, steps)
		}
	})
}

// Promise 58: from half as many steps as places on the flow is that of the end.
func TestAfterHalfAsManyStepsTheFlowIsThatOfTheEnd(t *testing.T) {
	eachOfAllBits(func(row []int) {
		half := len(row) / 2
		for _, steps := range []int{half, half + 1, impl.MaxSteps} {
			wantNumber(t, impl.FlowOf(impl.DrivenAfter(row, steps)), impl.EndFlow(row), "FlowOf many steps of", row)
		}
	})
	eachCars(func(row []int) {
		for steps := len(row) / 2; steps <= impl.MaxSteps; steps++ {
			driven := impl.DrivenAfter(row, steps)
			wantFlows(t, driven, impl.EndFlow(row), impl.EndFlow(row), 0)
		}
	})
}

func TestCarsAsARowLaidOut(t *testing.T) {
	eachCars(func(row []int) {
		for steps := 0; steps <= (impl.MaxCells-len(row))/2; steps++ {
			wantRow(t, impl.DrivenAfter(row, steps), drivenLaidOut(row, steps), "DrivenAfter", row, steps)
		}
	})
}

func TestCarsByTheCarsAhead(t *testing.T) {
	eachCars(func(row []int) {
		for steps := 0; steps <= impl.MaxSteps; steps++ {
			wantRow(t, impl.DrivenAfter(row, steps), drivenByCarsAhead(row, steps), "DrivenAfter", row, steps)
		}
	})
}

// In the end all go round: with at most half of the places the cars by a place on in each step, and with at least half the free places by one back.
func TestInTheEndTheRingGoesRound(t *testing.T) {
	eachOfAllBits(func(row []int) {
		places, cars := len(row), sumOf(row)
		driven := impl.DrivenAfter(row, places/2)
		if len(driven) != places {
			t.Fatalf("DrivenAfter(%v, %d) = %v", row, places/2, driven)
		}
		if 2*cars <= places {
			wantRow(t, impl.DrivenOf(driven), roundFrom(driven, places-1), "DrivenOf", driven)
		}
		if 2*cars >= places {
			wantRow(t, impl.DrivenOf(driven), roundFrom(driven, 1), "DrivenOf", driven)
		}
	})
}

// Where a ring of places begins does not matter.
func TestCarsOfRingsBegunAnywhere(t *testing.T) {
	eachCars(func(row []int) {
		for from := range row {
			round := roundFrom(row, from)
			for _, steps := range stepsFor(len(row)) {
				wantRow(t, impl.DrivenAfter(round, steps), roundFrom(impl.DrivenAfter(row, steps), from), "DrivenAfter", round, steps)
			}
			wantFlows(t, round, impl.FlowOf(row), impl.EndFlow(row), impl.FlowingAfter(row))
		}
	})
}

// Promise 59: flows do not grow less, and are at most the flow in the end.
func TestFlowsDoNotGrowLess(t *testing.T) {
	eachOfAllBits(func(row []int) {
		flow, after := impl.FlowOf(row), impl.FlowOf(impl.DrivenOf(row))
		if flow < 0 || after < flow || flow > impl.EndFlow(row) {
			t.Errorf("FlowOf(%v) = %d, and %d after a step, with %d in the end", row, flow, after, impl.EndFlow(row))
		}
	})
}

func TestFlowsCounted(t *testing.T) {
	eachOfAllBits(func(row []int) {
		wantFlows(t, row, flowCounted(row), endCounted(row), flowingCounted(row))
	})
}

// Promise 60: the flow in the end is at most half of the places, and the same for free places.
func TestTheFlowInTheEndIsTheSameForFreePlaces(t *testing.T) {
	eachOfAllBits(func(row []int) {
		end := impl.EndFlow(row)
		if end < 0 || 2*end > len(row) {
			t.Errorf("EndFlow(%v) = %d", row, end)
		}
		wantNumber(t, impl.EndFlow(impl.FreeAs(row)), end, "EndFlow of the free places of", row)
	})
}

// The flow in the end is as many as cars up to half of the places, and with more as many as free places, wherever they are.
func TestTheFlowInTheEndAboutHalf(t *testing.T) {
	draw := drawer()
	for places := 1; places <= impl.MaxBits; places++ {
		for cars := 0; cars <= places; cars++ {
			want := cars
			if 2*cars > places {
				want = places - cars
			}
			wantNumber(t, impl.EndFlow(block(places, 0, cars)), want, "EndFlow", block(places, 0, cars))
			for range 20 {
				row := drawCars(draw, places, cars)
				wantNumber(t, impl.EndFlow(row), want, "EndFlow", row)
			}
		}
	}
}

// Promise 61: a step of the free places is what a step of the cars is, so seen; the flow is the same; and so seen again it is the ring.
func TestFreePlacesDriveAsCarsDo(t *testing.T) {
	eachOfAllBits(func(row []int) {
		free := impl.FreeAs(row)
		wantRow(t, impl.DrivenOf(free), impl.FreeAs(impl.DrivenOf(row)), "DrivenOf the free places of", row)
		wantNumber(t, impl.FlowOf(free), impl.FlowOf(row), "FlowOf the free places of", row)
		wantRow(t, impl.FreeAs(free), row, "seen from the free places twice", row)
	})
	eachCars(func(row []int) {
		for _, steps := range stepsFor(len(row)) {
			wantRow(t, impl.DrivenAfter(impl.FreeAs(row), steps), impl.FreeAs(impl.DrivenAfter(row, steps)), "DrivenAfter, of the free places of", row, steps)
		}
	})
}

func TestFreePlacesPlaceByPlace(t *testing.T) {
	eachOfAllBits(func(row []int) {
		wantRow(t, impl.FreeAs(row), freePlaceByPlace(row), "FreeAs", row)
	})
	cases := []struct{ row, want []int }{
		{[]int{0}, []int{1}},
		{[]int{1}, []int{0}},
		{[]int{1, 0}, []int{1, 0}},
		{[]int{0, 0}, []int{1, 1}},
		{[]int{1, 0, 0}, []int{1, 1, 0}},
		{[]int{0, 1, 0}, []int{1, 0, 1}},
		{[]int{1, 1, 0, 0}, []int{1, 1, 0, 0}},
		{[]int{1, 1, 0, 1, 0}, []int{1, 0, 1, 0, 0}},
		{block(16, 0, 1), with(filled(16, 1), 15, 0)},
	}
	for _, c := range cases {
		wantRow(t, impl.FreeAs(c.row), c.want, "FreeAs", c.row)
	}
}

// Promise 62: no ring takes longer than half of it, and it is the same for the free places.
func TestNoRingTakesLongerThanHalfOfIt(t *testing.T) {
	eachOfAllBits(func(row []int) {
		steps := impl.FlowingAfter(row)
		if steps < 0 || 2*steps > len(row) {
			t.Fatalf("FlowingAfter(%v) = %d", row, steps)
		}
		wantNumber(t, impl.FlowingAfter(impl.FreeAs(row)), steps, "FlowingAfter of the free places of", row)
		end := impl.EndFlow(row)
		wantNumber(t, impl.FlowOf(impl.DrivenAfter(row, steps)), end, "FlowOf the flowing ring of", row)
		if steps > 0 && impl.FlowOf(impl.DrivenAfter(row, steps-1)) == end {
			t.Errorf("%v flows as in the end one step before %d", row, steps)
		}
	})
}

// Cars in one block go off one by one: in each step one more goes, until all cars do or no free place is left behind; no others take longer.
func TestCarsInOneBlock(t *testing.T) {
	for places := 1; places <= impl.MaxBits; places++ {
		for cars := 1; cars < places; cars++ {
			end := min(cars, places-cars)
			for from := range places {
				row := block(places, from, cars)
				wantFlows(t, row, 1, end, end-1)
				for steps := 0; steps <= impl.MaxSteps; steps++ {
					wantNumber(t, impl.FlowOf(impl.DrivenAfter(row, steps)), min(1+steps, end), "FlowOf some steps of", row)
				}
			}
		}
	}
	eachOfAllBits(func(row []int) {
		if steps := impl.FlowingAfter(row); steps > max(endCounted(row)-1, 0) {
			t.Errorf("FlowingAfter(%v) = %d", row, steps)
		}
	})
}

func TestRingsWithoutCarsAndFullOnes(t *testing.T) {
	for places := 1; places <= impl.MaxBits; places++ {
		for car := range 2 {
			row := filled(places, car)
			wantDrivenRows(t, 0, row)
			wantFlows(t, row, 0, 0, 0)
			wantRow(t, impl.FreeAs(row), filled(places, 1-car), "FreeAs", row)
		}
	}
}

// A single car goes in each step, and a single free place goes back; of one place neither can.
func TestSingleCarsAndSingleFreePlaces(t *testing.T) {
	for places := 1; places <= impl.MaxBits; places++ {
		goes := min(places-1, 1)
		noCars, full := filled(places, 0), filled(places, 1)
		for place := range places {
			car, free := with(noCars, place, 1), with(full, place, 0)
			wantFlows(t, car, goes, goes, 0)
			wantFlows(t, free, goes, goes, 0)
			for steps := 0; steps <= impl.MaxSteps; steps++ {
				on := (place + steps) % places
				back := (place + steps*(places-1)) % places
				wantRow(t, impl.DrivenAfter(car, steps), with(noCars, on, 1), "DrivenAfter", car, steps)
				wantRow(t, impl.DrivenAfter(free, steps), with(full, back, 0), "DrivenAfter", free, steps)
			}
			wantRow(t, impl.FreeAs(car), with(full, places-1-place, 0), "FreeAs", car)
			wantRow(t, impl.FreeAs(free), with(noCars, places-1-place, 1), "FreeAs", free)
		}
	}
}

func TestCarsOfNone(t *testing.T) {
	steps := append(beyond(0, impl.MaxSteps), 0, 1, 2, impl.MaxSteps)
	eachNoBits(func(row []int) {
		wantNone(t, impl.DrivenOf(row), "DrivenOf", row)
		for _, many := range steps {
			wantNone(t, impl.DrivenAfter(row, many), "DrivenAfter", row, many)
		}
		wantNone(t, impl.FreeAs(row), "FreeAs", row)
		wantFlows(t, row, -1, -1, -1)
	})
}

func TestCarsByNoSteps(t *testing.T) {
	eachCars(func(row []int) {
		for _, steps := range append(beyond(0, impl.MaxSteps), -2, impl.MaxSteps+2, 64, 1000, 1<<32) {
			wantNone(t, impl.DrivenAfter(row, steps), "DrivenAfter", row, steps)
		}
	})
}

func TestCarsShareNoMemory(t *testing.T) {
	eachCars(func(row []int) {
		wantApart(t, "DrivenOf", func(given [][]int) []int { return impl.DrivenOf(given[0]) }, row)
		for _, steps := range stepsFor(len(row)) {
			wantApart(t, "DrivenAfter", func(given [][]int) []int { return impl.DrivenAfter(given[0], steps) }, row)
		}
		wantApart(t, "FreeAs", func(given [][]int) []int { return impl.FreeAs(given[0]) }, row)
		// What comes from one function is not what comes from another one.
		wantListsApart(t, "cars", func() [][]int {
			return [][]int{impl.DrivenOf(row), impl.DrivenAfter(row, 0), impl.DrivenAfter(row, 1), impl.DrivenAfter(row, impl.MaxSteps), impl.FreeAs(row)}
		})
	})
}

// What is asked of rows, such as are rings of places or not, changes nothing of them, nor what is behind them in their memory.
func TestCarsChangeNoRow(t *testing.T) {
	wantUnchanged := func(row []int) {
		given := append(slices.Clone(row), 1, 0, 7)
		before := slices.Clone(given)
		asked := given[:len(row)]
		impl.DrivenOf(asked)
		for _, steps := range []int{0, 1, impl.MaxSteps, math.MinInt} {
			impl.DrivenAfter(asked, steps)
		}
		impl.FlowOf(asked)
		impl.EndFlow(asked)
		impl.FreeAs(asked)
		impl.FlowingAfter(asked)
		wantRow(t, given, before, "a row that was asked about", row)
	}
	eachCars(wantUnchanged)
	eachNoBits(wantUnchanged)
}
