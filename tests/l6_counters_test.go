package tests

import (
	"math"
	"math/rand"
	"slices"
	"testing"

	"loop.example/rowmachines/impl"
)

// maxSteps is how many steps a counter takes at once, at most.
const maxSteps = 300

// counter returns a counter with these digits and carries, in memory of its own.
func counter(digits, carries []int) impl.Counter {
	return impl.Counter{Digits: slices.Clone(digits), Carries: slices.Clone(carries)}
}

// quiet returns a counter with these digits, without carries.
func quiet(digits ...int) impl.Counter {
	return counter(digits, filled(len(digits), 0))
}

// power returns 2 to the power of a number.
func power(of int) int {
	product := 1
	for range of {
		product *= 2
	}
	return product
}

// eachCounter calls see with each counter there is: each machine has a digit, a carry or none.
func eachCounter(see func(c impl.Counter)) {
	for machines := 1; machines <= impl.MaxDigits; machines++ {
		eachRow(machines, 0, 2, func(row []int) {
			c := quiet(filled(machines, 0)...)
			for place, has := range row {
				switch has {
				case 1:
					c.Digits[place] = 1
				case 2:
					c.Carries[place] = 1
				}
			}
			see(c)
		})
	}
}

// eachMisshapen calls see with values that are no counters by their numbers of digits and of carries.
func eachMisshapen(see func(c impl.Counter)) {
	numbers := []int{1000, impl.MaxCells}
	for count := 0; count <= impl.MaxDigits+2; count++ {
		numbers = append(numbers, count)
	}
	see(impl.Counter{})
	for _, digits := range numbers {
		for _, carries := range numbers {
			if digits == carries && digits >= 1 && digits <= impl.MaxDigits {
				continue
			}
			see(counter(filled(digits, 0), filled(carries, 0)))
			see(counter(filled(digits, 1), filled(carries, 0)))
			see(counter(filled(digits, 0), filled(carries, 1)))
		}
	}
}

// eachNoCounter calls see with values that are no counters, one thing wrong at a time.
func eachNoCounter(see func(c impl.Counter)) {
	eachMisshapen(see)
	for machines := 1; machines <= impl.MaxDigits; machines++ {
		zeros, ones := filled(machines, 0), filled(machines, 1)
		for place := range machines {
			see(counter(with(zeros, place, 1), with(zeros, place, 1)))
			see(counter(ones, with(zeros, place, 1)))
			see(counter(with(zeros, place, 1), ones))
			for _, wrong := range beyond(0, 1) {
				see(counter(with(zeros, place, wrong), zeros))
				see(counter(zeros, with(zeros, place, wrong)))
				see(counter(with(ones, place, wrong), zeros))
				see(counter(zeros, with(ones, place, wrong)))
			}
			// What a machine has may be wrong though the digit and the carry add up to 0 or 1.
			see(counter(with(zeros, place, -1), with(zeros, place, 1)))
			see(counter(with(zeros, place, 1), with(zeros, place, -1)))
			see(counter(with(zeros, place, 2), with(zeros, place, -1)))
		}
	}
}

// eachTicks calls see with lists of steps: all short ones, and long ones with ticks at all steps, at none, at every second or third one, once, and at drawn ones.
func eachTicks(see func(ticks []bool)) {
	for steps := 0; steps <= 8; steps++ {
		eachRow(steps, 0, 1, func(row []int) { see(ticksOf(row)) })
	}
	draw := drawer()
	for _, steps := range []int{9, 16, 31, 32, 63, 64, 100, 127, 128, 254, 255, 256, 257, 258, maxSteps - 1, maxSteps} {
		see(everyTick(steps, 1))
		see(everyTick(steps, 2))
		see(everyTick(steps, 3))
		see(make([]bool, steps))
		see(ticksOf(with(filled(steps, 0), 0, 1)))
		see(ticksOf(with(filled(steps, 0), steps-1, 1)))
		for range 5 {
			see(drawTicks(draw, steps))
		}
	}
}

// ticksOf returns a tick for each 1.
func ticksOf(row []int) []bool {
	ticks := make([]bool, len(row))
	for step, one := range row {
		ticks[step] = one == 1
	}
	return ticks
}

// everyTick returns so many steps with a tick at each of so many, the first one too.
func everyTick(steps, each int) []bool {
	ticks := make([]bool, steps)
	for step := 0; step < steps; step += each {
		ticks[step] = true
	}
	return ticks
}

func drawTicks(draw *rand.Rand, steps int) []bool {
	return ticksOf(drawRow(draw, 2, steps))
}

func ticksIn(ticks []bool) int {
	count := 0
	for _, tick := range ticks {
		if tick {
			count++
		}
	}
	return count
}

func asNumber(tick bool) int {
	if tick {
		return 1
	}
	return 0
}

// tickedMachineByMachine is a step as the document tells it, asked for each machine: what it hears and its digit differ, or both are 1 and go on as a carry, or neither is.
func tickedMachineByMachine(c impl.Counter, tick bool) impl.Counter {
	next := impl.Counter{}
	for place, digit := range c.Digits {
		heard := asNumber(tick)
		if place > 0 {
			heard = c.Carries[place-1]
		}
		next.Digits = append(next.Digits, asNumber(digit != heard))
		next.Carries = append(next.Carries, asNumber(digit == 1 && heard == 1))
	}
	return next
}

// toldAdded is what a counter tells, each digit and each carry added by its own power.
func toldAdded(c impl.Counter) int {
	told := 0
	for place := range c.Digits {
		told += c.Digits[place]*power(place) + c.Carries[place]*power(place+1)
	}
	return told
}

// digitsFor returns the digits of a number, the lowest one first.
func digitsFor(number, machines int) []int {
	digits := make([]int, machines)
	for place := range digits {
		digits[place] = number % 2
		number /= 2
	}
	return digits
}

func wantCounterOk(t *testing.T, c impl.Counter, want bool) {
	t.Helper()
	if got := impl.CounterOk(c); got != want {
		t.Errorf("CounterOk(%v) = %v", c, got)
	}
}

func wantTold(t *testing.T, c impl.Counter, want int) {
	t.Helper()
	if got := impl.ToldBy(c); got != want {
		t.Errorf("ToldBy(%v) = %d, want %d", c, got, want)
	}
}

func sameCounter(a, b impl.Counter) bool {
	return slices.Equal(a.Digits, b.Digits) && slices.Equal(a.Carries, b.Carries)
}

// counterWanted returns a check of both results of a call: a counter, and true.
func counterWanted(t *testing.T, want impl.Counter, what string, about ...any) func(got impl.Counter, ok bool) {
	t.Helper()
	return func(got impl.Counter, ok bool) {
		t.Helper()
		if !ok || !sameCounter(got, want) {
			t.Errorf("%s%v = %v, %v, want %v", what, about, got, ok, want)
		}
	}
}

// noneWanted returns a check of both results of a call: the zero value, and false.
func noneWanted(t *testing.T, what string, about ...any) func(got impl.Counter, ok bool) {
	t.Helper()
	return func(got impl.Counter, ok bool) {
		t.Helper()
		if ok || len(got.Digits) != 0 || len(got.Carries) != 0 {
			t.Errorf("%s%v = %v, %v, want the zero value and false", what, about, got, ok)
		}
	}
}

func TestConstantsOfChapter6(t *testing.T) {
	if impl.MaxDigits != 8 {
		t.Error(impl.MaxDigits)
	}
}

// Promise 27: counters without carries are ones, whatever their digits.
func TestCountersWithoutCarriesAreOnes(t *testing.T) {
	for machines := 1; machines <= impl.MaxDigits; machines++ {
		eachRow(machines, 0, 1, func(digits []int) {
			wantCounterOk(t, quiet(digits...), true)
			wantCounterOk(t, counter(filled(machines, 0), digits), true)
		})
	}
}

// Promise 27: digits and carries exchanged it holds exactly if it does.
func TestDigitsAndCarriesExchanged(t *testing.T) {
	wantBoth := func(c impl.Counter, want bool) {
		wantCounterOk(t, c, want)
		wantCounterOk(t, impl.Counter{Digits: c.Carries, Carries: c.Digits}, want)
	}
	eachCounter(func(c impl.Counter) { wantBoth(c, true) })
	eachNoCounter(func(c impl.Counter) { wantBoth(c, false) })
}

// Promise 27: no machine has a digit and a carry.
func TestNoMachineHasADigitAndACarry(t *testing.T) {
	for machines := 1; machines <= 5; machines++ {
		eachRow(2*machines, 0, 1, func(row []int) {
			c, apart := counter(row[:machines], row[machines:]), true
			for place := range machines {
				apart = apart && !(c.Digits[place] == 1 && c.Carries[place] == 1)
			}
			wantCounterOk(t, c, apart)
		})
	}
}

func TestCountersOfFewAndManyMachines(t *testing.T) {
	for machines := 0; machines <= impl.MaxCells; machines++ {
		wantCounterOk(t, quiet(filled(machines, 0)...), machines >= 1 && machines <= 8)
		wantCounterOk(t, quiet(filled(machines, 1)...), machines >= 1 && machines <= 8)
		wantCounterOk(t, counter(filled(machines, 0), filled(machines, 1)), machines >= 1 && machines <= 8)
	}
	wantCounterOk(t, impl.Counter{}, false)
	wantCounterOk(t, impl.Counter{Digits: []int{}, Carries: []int{}}, false)
	wantCounterOk(t, impl.Counter{Digits: []int{0}}, false)
	wantCounterOk(t, impl.Counter{Carries: []int{0}}, false)
	wantCounterOk(t, counter([]int{1}, []int{1}), false)
}

// Promise 28: new counters tell nothing.
func TestNewCountersTellNothing(t *testing.T) {
	for machines := 1; machines <= impl.MaxDigits; machines++ {
		c, ok := impl.CounterOf(machines)
		counterWanted(t, quiet(filled(machines, 0)...), "CounterOf", machines)(c, ok)
		wantCounterOk(t, c, true)
		wantTold(t, c, 0)
		if len(c.Digits) != machines {
			t.Errorf("CounterOf(%d) = %v", machines, c)
		}
	}
}

func TestNewCountersOfNoMachines(t *testing.T) {
	for _, machines := range append(beyond(1, impl.MaxDigits), -1, impl.MaxDigits+2, impl.MaxCells) {
		noneWanted(t, "CounterOf", machines)(impl.CounterOf(machines))
	}
}

// Promise 29: a tick is told as one more, but for what goes out.
func TestATickIsToldAsOneMore(t *testing.T) {
	eachCounter(func(c impl.Counter) {
		machines := len(c.Digits)
		for _, tick := range []bool{false, true} {
			got, ok := impl.TickOf(c, tick)
			if !ok {
				t.Fatalf("TickOf(%v, %v) is none", c, tick)
			}
			wantCounterOk(t, got, true)
			wantTold(t, got, impl.ToldBy(c)+asNumber(tick)-c.Carries[machines-1]*power(machines))
		}
	})
}

func TestTicksMachineByMachine(t *testing.T) {
	eachCounter(func(c impl.Counter) {
		for _, tick := range []bool{false, true} {
			counterWanted(t, tickedMachineByMachine(c, tick), "TickOf", c, tick)(impl.TickOf(c, tick))
		}
	})
}

func TestTicksByHand(t *testing.T) {
	cases := []struct{ digits, carries, without, carriedWithout, ticked, carriedTicked []int }{
		// One machine: what it carries goes out, with a tick or without.
		{[]int{0}, []int{0}, []int{0}, []int{0}, []int{1}, []int{0}},
		{[]int{1}, []int{0}, []int{1}, []int{0}, []int{0}, []int{1}},
		{[]int{0}, []int{1}, []int{0}, []int{0}, []int{1}, []int{0}},
		// What is carried is heard a step later, by the next machine alone.
		{[]int{1, 1, 1}, []int{0, 0, 0}, []int{1, 1, 1}, []int{0, 0, 0}, []int{0, 1, 1}, []int{1, 0, 0}},
		{[]int{0, 1, 1}, []int{1, 0, 0}, []int{0, 0, 1}, []int{0, 1, 0}, []int{1, 0, 1}, []int{0, 1, 0}},
		{[]int{0, 0, 1}, []int{0, 1, 0}, []int{0, 0, 0}, []int{0, 0, 1}, []int{1, 0, 0}, []int{0, 0, 1}},
		// What the last machine carries goes out.
		{[]int{0, 0, 0}, []int{0, 0, 1}, []int{0, 0, 0}, []int{0, 0, 0}, []int{1, 0, 0}, []int{0, 0, 0}},
		{[]int{1, 1, 0}, []int{0, 0, 1}, []int{1, 1, 0}, []int{0, 0, 0}, []int{0, 1, 0}, []int{1, 0, 0}},
		// Carries next to each other.
		{[]int{0, 0, 0}, []int{1, 1, 0}, []int{0, 1, 1}, []int{0, 0, 0}, []int{1, 1, 1}, []int{0, 0, 0}},
		{[]int{0, 0, 0}, []int{1, 1, 1}, []int{0, 1, 1}, []int{0, 0, 0}, []int{1, 1, 1}, []int{0, 0, 0}},
		{[]int{0, 0, 1, 1}, []int{1, 1, 0, 0}, []int{0, 1, 0, 1}, []int{0, 0, 1, 0}, []int{1, 1, 0, 1}, []int{0, 0, 1, 0}},
	}
	for _, c := range cases {
		now := counter(c.digits, c.carries)
		counterWanted(t, counter(c.without, c.carriedWithout), "TickOf", now, false)(impl.TickOf(now, false))
		counterWanted(t, counter(c.ticked, c.carriedTicked), "TickOf", now, true)(impl.TickOf(now, true))
	}
}

// Promise 30: no counter tells more than its machines may.
func TestNoCounterTellsMoreThanItsMachinesMay(t *testing.T) {
	eachCounter(func(c impl.Counter) {
		machines := len(c.Digits)
		told := impl.ToldBy(c)
		if told < 0 || told > power(machines+1)-2 {
			t.Errorf("ToldBy(%v) = %d", c, told)
		}
		empty := sameCounter(c, quiet(filled(machines, 0)...))
		if empty != (told == 0) {
			t.Errorf("ToldBy(%v) = %d", c, told)
		}
		wantTold(t, c, toldAdded(c))
	})
}

func TestToldByHand(t *testing.T) {
	cases := []struct {
		digits, carries []int
		want            int
	}{
		{[]int{0}, []int{0}, 0}, {[]int{1}, []int{0}, 1}, {[]int{0}, []int{1}, 2},
		{[]int{1, 0}, []int{0, 0}, 1}, {[]int{0, 1}, []int{0, 0}, 2}, {[]int{0, 0}, []int{1, 0}, 2},
		{[]int{0, 0}, []int{0, 1}, 4}, {[]int{0, 0}, []int{1, 1}, 6}, {[]int{0, 1}, []int{1, 0}, 4},
		{[]int{1, 0, 1, 0}, []int{0, 1, 0, 0}, 9},
		{[]int{0, 0, 0, 0, 0, 0, 0, 1}, []int{0, 0, 0, 0, 0, 0, 0, 0}, 128},
		{[]int{0, 0, 0, 0, 0, 0, 0, 0}, []int{0, 0, 0, 0, 0, 0, 0, 1}, 256},
		{[]int{1, 1, 1, 1, 1, 1, 1, 1}, []int{0, 0, 0, 0, 0, 0, 0, 0}, 255},
		{[]int{0, 0, 0, 0, 0, 0, 0, 0}, []int{1, 1, 1, 1, 1, 1, 1, 1}, 510},
	}
	for _, c := range cases {
		wantTold(t, counter(c.digits, c.carries), c.want)
	}
	for machines := 1; machines <= impl.MaxDigits; machines++ {
		wantTold(t, quiet(filled(machines, 1)...), power(machines)-1)
		wantTold(t, counter(filled(machines, 0), filled(machines, 1)), power(machines+1)-2)
	}
}

// Promise 31: counters count ticks.
func TestCountersCountTicks(t *testing.T) {
	for machines := 1; machines <= impl.MaxDigits; machines++ {
		eachTicks(func(ticks []bool) {
			got, ok := impl.CountedOf(machines, ticks)
			if !ok {
				t.Fatalf("CountedOf(%d, %v) is none", machines, ticks)
			}
			wantCounterOk(t, got, true)
			count, told := ticksIn(ticks), impl.ToldBy(got)
			if (count-told)%power(machines) != 0 || count < power(machines) && told != count {
				t.Errorf("ToldBy(CountedOf(%d, %v)) = %d, for %d ticks", machines, ticks, told, count)
			}
		})
	}
}

func TestCountedStepByStep(t *testing.T) {
	draw := drawer()
	for machines := 1; machines <= impl.MaxDigits; machines++ {
		for _, ticks := range [][]bool{everyTick(maxSteps, 1), everyTick(maxSteps, 2), make([]bool, maxSteps), drawTicks(draw, maxSteps), drawTicks(draw, maxSteps)} {
			want := quiet(filled(machines, 0)...)
			counterWanted(t, want, "CountedOf", machines, 0)(impl.CountedOf(machines, ticks[:0]))
			for step, tick := range ticks {
				ticked, ok := impl.TickOf(want, tick)
				counterWanted(t, tickedMachineByMachine(want, tick), "TickOf", want, tick)(ticked, ok)
				want = ticked
				counterWanted(t, want, "CountedOf", machines, step+1)(impl.CountedOf(machines, ticks[:step+1]))
			}
		}
	}
}

// With a tick at each step, a counter tells just the number of ticks as long as nothing has gone out.
func TestCountedByHand(t *testing.T) {
	one := []impl.Counter{quiet(0), quiet(1), counter([]int{0}, []int{1}), quiet(1), counter([]int{0}, []int{1}), quiet(1)}
	for steps, want := range one {
		counterWanted(t, want, "CountedOf", 1, steps)(impl.CountedOf(1, everyTick(steps, 1)))
	}
	three := []impl.Counter{
		quiet(0, 0, 0), quiet(1, 0, 0), counter([]int{0, 0, 0}, []int{1, 0, 0}), quiet(1, 1, 0),
		counter([]int{0, 1, 0}, []int{1, 0, 0}), counter([]int{1, 0, 0}, []int{0, 1, 0}),
		counter([]int{0, 0, 1}, []int{1, 0, 0}), quiet(1, 1, 1), counter([]int{0, 1, 1}, []int{1, 0, 0}),
		counter([]int{1, 0, 1}, []int{0, 1, 0}), counter([]int{0, 0, 0}, []int{1, 0, 1}), quiet(1, 1, 0),
	}
	told := []int{0, 1, 2, 3, 4, 5, 6, 7, 8, 9, 10, 3}
	for steps, want := range three {
		counterWanted(t, want, "CountedOf", 3, steps)(impl.CountedOf(3, everyTick(steps, 1)))
		wantTold(t, want, told[steps])
	}
	// A carry of 8 machines goes out only in the step 264, and takes 256 of the ticks with it: just then all it tells is 8.
	for steps := range maxSteps + 1 {
		got, _ := impl.CountedOf(8, everyTick(steps, 1))
		wantTold(t, got, steps-steps/264*256)
	}
	last := counter([]int{0, 1, 0, 1, 0, 1, 0, 0}, []int{1, 0, 0, 0, 0, 0, 0, 0})
	counterWanted(t, last, "CountedOf", 8, maxSteps)(impl.CountedOf(8, everyTick(maxSteps, 1)))
}

func TestCountedWithoutTicks(t *testing.T) {
	for machines := 1; machines <= impl.MaxDigits; machines++ {
		for _, steps := range []int{0, 1, 2, maxSteps - 1, maxSteps} {
			counterWanted(t, quiet(filled(machines, 0)...), "CountedOf", machines, steps)(impl.CountedOf(machines, make([]bool, steps)))
		}
		counterWanted(t, quiet(filled(machines, 0)...), "CountedOf", machines, nil)(impl.CountedOf(machines, nil))
	}
}

func TestCountedByTooManySteps(t *testing.T) {
	for machines := 1; machines <= impl.MaxDigits; machines++ {
		for _, steps := range []int{maxSteps + 1, maxSteps + 2, 512, 10000} {
			noneWanted(t, "CountedOf", machines, steps)(impl.CountedOf(machines, make([]bool, steps)))
			noneWanted(t, "CountedOf", machines, steps)(impl.CountedOf(machines, everyTick(steps, 1)))
		}
	}
}

func TestCountedByNoMachines(t *testing.T) {
	for _, machines := range append(beyond(1, impl.MaxDigits), -1, impl.MaxDigits+2, impl.MaxCells) {
		for _, steps := range []int{0, 1, maxSteps, maxSteps + 1} {
			noneWanted(t, "CountedOf", machines, steps)(impl.CountedOf(machines, everyTick(steps, 1)))
		}
		noneWanted(t, "CountedOf", machines, nil)(impl.CountedOf(machines, nil))
	}
}

// Promise 32: carries come to rest.
func TestCarriesComeToRest(t *testing.T) {
	eachCounter(func(c impl.Counter) {
		machines := len(c.Digits)
		got, ok := impl.RestOf(c)
		if !ok {
			t.Fatalf("RestOf(%v) is none", c)
		}
		wantRow(t, got.Carries, filled(machines, 0), "the carries of RestOf", c)
		wantTold(t, got, impl.ToldBy(c)%power(machines))
		wantRow(t, got.Digits, digitsFor(toldAdded(c), machines), "the digits of RestOf", c)
	})
}

func TestRestIsAsManyStepsWithoutTicks(t *testing.T) {
	eachCounter(func(c impl.Counter) {
		want := c
		for range c.Digits {
			want = tickedMachineByMachine(want, false)
		}
		counterWanted(t, want, "RestOf", c)(impl.RestOf(c))
	})
}

func TestCountersWithoutCarriesStayAtRest(t *testing.T) {
	for machines := 1; machines <= impl.MaxDigits; machines++ {
		eachRow(machines, 0, 1, func(digits []int) {
			c := quiet(digits...)
			counterWanted(t, c, "TickOf", c, false)(impl.TickOf(c, false))
			counterWanted(t, c, "RestOf", c)(impl.RestOf(c))
		})
	}
}

func TestRestByHand(t *testing.T) {
	cases := []struct{ digits, carries, want []int }{
		{[]int{0}, []int{1}, []int{0}},
		{[]int{1}, []int{0}, []int{1}},
		{[]int{0, 1, 1}, []int{1, 0, 0}, []int{0, 0, 0}},
		{[]int{0, 1, 0}, []int{1, 0, 0}, []int{0, 0, 1}},
		{[]int{0, 0, 0}, []int{1, 1, 1}, []int{0, 1, 1}},
		// Of a carry that goes through all machines, the last one's goes out just in the last step.
		{[]int{0, 1, 1, 1, 1, 1, 1, 1}, []int{1, 0, 0, 0, 0, 0, 0, 0}, []int{0, 0, 0, 0, 0, 0, 0, 0}},
		{[]int{0, 1, 1, 1, 1, 1, 1, 0}, []int{1, 0, 0, 0, 0, 0, 0, 0}, []int{0, 0, 0, 0, 0, 0, 0, 1}},
		{[]int{0, 0, 0, 0, 0, 0, 0, 0}, []int{1, 1, 1, 1, 1, 1, 1, 1}, []int{0, 1, 1, 1, 1, 1, 1, 1}},
	}
	for _, c := range cases {
		now := counter(c.digits, c.carries)
		counterWanted(t, quiet(c.want...), "RestOf", now)(impl.RestOf(now))
	}
}

// All digits 1: the carry of one tick goes through all machines, one each step, and out.
func TestATickOfAllDigits(t *testing.T) {
	for machines := 1; machines <= impl.MaxDigits; machines++ {
		now, ok := impl.TickOf(quiet(filled(machines, 1)...), true)
		for steps := 1; steps <= machines; steps++ {
			want := quiet(append(filled(steps, 0), filled(machines-steps, 1)...)...)
			want.Carries[steps-1] = 1
			counterWanted(t, want, "all digits after steps", machines, steps)(now, ok)
			wantTold(t, now, power(machines))
			now, ok = impl.TickOf(now, false)
		}
		counterWanted(t, quiet(filled(machines, 0)...), "all digits after all steps", machines)(now, ok)
	}
}

func TestCountingOfNone(t *testing.T) {
	eachNoCounter(func(c impl.Counter) {
		wantCounterOk(t, c, false)
		wantTold(t, c, -1)
		noneWanted(t, "TickOf", c, true)(impl.TickOf(c, true))
		noneWanted(t, "TickOf", c, false)(impl.TickOf(c, false))
		noneWanted(t, "RestOf", c)(impl.RestOf(c))
	})
}

// wantCounterApart fails if a counter that a function returns shares memory with the lists that it is given, with a counter of another call, or its digits share any with its carries; or if the lists are written to.
func wantCounterApart(t *testing.T, what string, call func(given [][]int) (impl.Counter, bool), arguments ...[]int) {
	t.Helper()
	wantApart(t, what+" digits", func(given [][]int) []int { c, _ := call(given); return c.Digits }, arguments...)
	wantApart(t, what+" carries", func(given [][]int) []int { c, _ := call(given); return c.Carries }, arguments...)
	wantListsApart(t, what, func() [][]int { c, _ := call(arguments); return [][]int{c.Digits, c.Carries} })
}

// wantTicksUnwritten fails if a function writes to a list of steps, or to what is behind it in its memory.
func wantTicksUnwritten(t *testing.T, ticks []bool, call func(given []bool)) {
	t.Helper()
	given := append(slices.Clone(ticks), true, false, true)
	before := slices.Clone(given)
	call(given[:len(ticks)])
	if !slices.Equal(given, before) {
		t.Errorf("the steps became %v from %v", given, before)
	}
}

func TestCountersShareNoMemory(t *testing.T) {
	for machines := 1; machines <= impl.MaxDigits; machines++ {
		wantCounterApart(t, "CounterOf", func([][]int) (impl.Counter, bool) { return impl.CounterOf(machines) })
	}
	eachCounter(func(c impl.Counter) {
		for _, tick := range []bool{false, true} {
			wantCounterApart(t, "TickOf", func(given [][]int) (impl.Counter, bool) {
				return impl.TickOf(impl.Counter{Digits: given[0], Carries: given[1]}, tick)
			}, c.Digits, c.Carries)
		}
		wantCounterApart(t, "RestOf", func(given [][]int) (impl.Counter, bool) {
			return impl.RestOf(impl.Counter{Digits: given[0], Carries: given[1]})
		}, c.Digits, c.Carries)
	})
	eachTicks(func(ticks []bool) {
		for _, machines := range []int{1, 3, impl.MaxDigits} {
			wantCounterApart(t, "CountedOf", func([][]int) (impl.Counter, bool) { return impl.CountedOf(machines, ticks) })
			wantTicksUnwritten(t, ticks, func(given []bool) { impl.CountedOf(machines, given) })
		}
	})
	wantTicksUnwritten(t, everyTick(maxSteps+1, 2), func(given []bool) { impl.CountedOf(3, given) })
	wantTicksUnwritten(t, everyTick(3, 2), func(given []bool) { impl.CountedOf(0, given) })
}

// A counter whose digits and carries are the same memory is one if all are 0; what becomes of it is not so.
func TestCountersOfOneMemory(t *testing.T) {
	for machines := 1; machines <= impl.MaxDigits; machines++ {
		zeros := filled(machines, 0)
		c := impl.Counter{Digits: zeros, Carries: zeros}
		wantCounterOk(t, c, true)
		wantTold(t, c, 0)
		ticked, ok := impl.TickOf(c, true)
		counterWanted(t, quiet(with(zeros, 0, 1)...), "TickOf", c, true)(ticked, ok)
		rested, ok := impl.RestOf(c)
		counterWanted(t, quiet(zeros...), "RestOf", c)(rested, ok)
		overwrite(rested.Digits, math.MinInt)
		wantRow(t, rested.Carries, zeros, "the carries after the digits were written to", machines)
		wantRow(t, c.Digits, filled(machines, 0), "the counter after its rest was written to", machines)
	}
}

// What is asked of a counter, one that is ok or not, changes nothing of it, nor what is behind it in its memory.
func TestCountingChangesNoCounter(t *testing.T) {
	wantUnchanged := func(c impl.Counter) {
		digits, carries := append(slices.Clone(c.Digits), 1, 0, 7), append(slices.Clone(c.Carries), 1, 0, 7)
		wantDigits, wantCarries := slices.Clone(digits), slices.Clone(carries)
		asked := impl.Counter{Digits: digits[:len(c.Digits)], Carries: carries[:len(c.Carries)]}
		impl.CounterOk(asked)
		impl.ToldBy(asked)
		impl.TickOf(asked, true)
		impl.TickOf(asked, false)
		impl.RestOf(asked)
		wantRow(t, digits, wantDigits, "the digits of a counter that was asked about", c)
		wantRow(t, carries, wantCarries, "the carries of a counter that was asked about", c)
	}
	eachCounter(wantUnchanged)
	eachNoCounter(wantUnchanged)
}
