package tests

import (
	"math"
	"math/rand"
	"slices"
	"testing"

	"loop.example/rowmachines/impl"
)

// eachOrder calls see with all orders of the numbers.
func eachOrder(numbers []int, see func(order []int)) {
	order := slices.Clone(numbers)
	var place func(at int)
	place = func(at int) {
		if at == len(order) {
			see(slices.Clone(order))
			return
		}
		for other := at; other < len(order); other++ {
			order[at], order[other] = order[other], order[at]
			place(at + 1)
			order[at], order[other] = order[other], order[at]
		}
	}
	place(0)
}

// roundFrom returns the numbers from a place on and once round.
func roundFrom(numbers []int, place int) []int {
	return slices.Concat(numbers[place:], numbers[:place])
}

// drawRing returns so many different numbers.
func drawRing(draw *rand.Rand, machines int) []int {
	ring := draw.Perm(impl.MaxKept)[:machines]
	for place := range ring {
		ring[place]++
	}
	return ring
}

// waved returns the numbers by turns from the beginning and from the end.
func waved(numbers []int) []int {
	out := []int{}
	for first, last := 0, len(numbers)-1; first <= last; first, last = first+1, last-1 {
		out = append(out, numbers[first])
		if first < last {
			out = append(out, numbers[last])
		}
	}
	return out
}

// upAndDown returns ascending numbers such that they ascend first and descend then.
func upAndDown(numbers []int) []int {
	up, down := []int{}, []int{}
	for place, number := range numbers {
		if place%2 == 0 {
			up = append(up, number)
		} else {
			down = append(down, number)
		}
	}
	return slices.Concat(up, reversed(down))
}

// orderedRings are rings of so many machines, begun at each place, whose numbers ascend, descend, go up and down by turns, or go up and then down: the least numbers that there may be, the greatest ones, such as are apart, and the least ones with MaxKept.
func orderedRings(machines int) [][]int {
	spread := ascending(machines, 1)
	for place := range spread {
		spread[place] += place * place / 2
	}
	bounds := ascending(machines, 1)
	bounds[machines-1] = impl.MaxKept
	rings := [][]int{}
	for _, numbers := range [][]int{ascending(machines, 1), ascending(machines, impl.MaxKept-machines+1), spread, bounds} {
		for _, order := range [][]int{numbers, waved(numbers), upAndDown(numbers)} {
			for place := range machines {
				rings = append(rings, roundFrom(order, place), roundFrom(reversed(order), place))
			}
		}
	}
	return rings
}

// greatestRings are rings of so many machines with the greatest number at each place, and 1 at each other one; the numbers between ascend, descend or are drawn.
func greatestRings(machines int) [][]int {
	draw := drawer()
	rings := [][]int{}
	for place := range machines {
		for other := range machines {
			for _, others := range [][]int{ascending(machines, 2), reversed(ascending(machines, 2)), drawRing(draw, machines)} {
				for at, number := range others {
					others[at] = min(max(number, 2), impl.MaxKept-1)
				}
				ring := with(with(others, other, 1), place, impl.MaxKept)
				if allDifferent(ring) {
					rings = append(rings, ring)
				}
			}
		}
	}
	return rings
}

// allDifferent tells whether no number is there twice.
func allDifferent(numbers []int) bool {
	ordered := slices.Clone(numbers)
	slices.Sort(ordered)
	return len(slices.Compact(ordered)) == len(numbers)
}

// someRings are rings of so many machines: ordered ones, such with the greatest number at each place, and drawn ones.
func someRings(machines int) [][]int {
	draw := drawer()
	rings := slices.Concat(orderedRings(machines), greatestRings(machines))
	for range 60 {
		rings = append(rings, drawRing(draw, machines))
	}
	return rings
}

// eachRing calls see with rings: each number alone, all pairs of numbers, all orders of up to 6 numbers, and some of each number of machines.
func eachRing(see func(ring []int)) {
	for machines := 1; machines <= 2; machines++ {
		eachRow(machines, 1, impl.MaxKept, func(ring []int) {
			if allDifferent(ring) {
				see(slices.Clone(ring))
			}
		})
	}
	for machines := 3; machines <= 6; machines++ {
		eachOrder(ascending(machines, 1), see)
		eachOrder(reversed(ascending(machines, impl.MaxKept-machines+1)), see)
	}
	for machines := 1; machines <= impl.MaxRing; machines++ {
		for _, ring := range someRings(machines) {
			see(ring)
		}
	}
}

// eachNoRing calls see with what is no ring, one thing wrong at a time.
func eachNoRing(see func(ring []int)) {
	see(nil)
	see([]int{})
	for _, machines := range []int{impl.MaxRing + 1, impl.MaxRing + 2, 2 * impl.MaxRing, impl.MaxKept} {
		see(ascending(machines, 1))
		see(reversed(ascending(machines, 1)))
	}
	see(filled(1000, 1))
	for machines := 1; machines <= impl.MaxRing; machines++ {
		for _, numbers := range [][]int{ascending(machines, 1), reversed(ascending(machines, impl.MaxKept-machines+1))} {
			for place := range machines {
				for _, wrong := range append(beyond(1, impl.MaxKept), -1, -2, impl.MaxKept+2) {
					see(with(numbers, place, wrong))
				}
				for other := range place {
					see(with(numbers, place, numbers[other]))
					see(with(numbers, other, numbers[place]))
				}
			}
		}
	}
}

// sentMachineByMachine are the numbers sent in the steps up to one, as the document tells it: each machine hears what the one on its left has sent, all at once.
func sentMachineByMachine(ring []int, steps int) [][]int {
	sent := [][]int{slices.Clone(ring)}
	for step := range steps {
		next := filled(len(ring), 0)
		for place, own := range ring {
			left := place - 1
			if place == 0 {
				left = len(ring) - 1
			}
			if heard := sent[step][left]; heard > own {
				next[place] = heard
			}
		}
		sent = append(sent, next)
	}
	return sent
}

// sentFromTheLeft is what a machine sends: the number of the machine so many places to the left as steps, if it is greater than all between there and here, this one counted.
func sentFromTheLeft(ring []int, place, step int) int {
	machines := len(ring)
	if step >= machines {
		return 0
	}
	number := ring[(place-step+machines)%machines]
	for back := range step {
		if ring[(place-back+machines)%machines] > number {
			return 0
		}
	}
	return number
}

// chosenMachineByMachine is the place and the step in which a machine hears its own number first.
func chosenMachineByMachine(ring []int) (int, int) {
	for step, sent := range sentMachineByMachine(ring, len(ring)) {
		for place, own := range ring {
			if sent[(place+len(ring)-1)%len(ring)] == own {
				return place, step
			}
		}
	}
	return -1, -1
}

// messagesCounted are all numbers that are sent up to the step in which a machine is chosen.
func messagesCounted(ring []int) int {
	_, chosen := chosenMachineByMachine(ring)
	count := 0
	for _, sent := range sentMachineByMachine(ring, chosen) {
		for _, number := range sent {
			if number != 0 {
				count++
			}
		}
	}
	return count
}

// reachCounted is how many times each machine's number is sent, counted in all steps.
func reachCounted(ring []int) []int {
	counts := map[int]int{}
	for _, sent := range sentMachineByMachine(ring, 2*len(ring)) {
		for _, number := range sent {
			counts[number]++
		}
	}
	reach := []int{}
	for _, number := range ring {
		reach = append(reach, counts[number])
	}
	return reach
}

// reachWalked is how many machines are, from a place on to the right, before the first one with a greater number, once round at most.
func reachWalked(ring []int, place int) int {
	count, at := 0, place
	for count < len(ring) && ring[at] <= ring[place] {
		count++
		at++
		if at == len(ring) {
			at = 0
		}
	}
	return count
}

// sumOf adds all numbers.
func sumOf(numbers []int) int {
	sum := 0
	for _, number := range numbers {
		sum += number
	}
	return sum
}

func wantRing(t *testing.T, ring []int, want bool) {
	t.Helper()
	if got := impl.RingOk(ring); got != want {
		t.Errorf("RingOk(%v) = %v", ring, got)
	}
}

func wantChosen(t *testing.T, ring []int, place, step int) {
	t.Helper()
	if gotPlace, gotStep, ok := impl.ChosenAt(ring); gotPlace != place || gotStep != step || !ok {
		t.Errorf("ChosenAt(%v) = %d, %d, %v, want %d, %d", ring, gotPlace, gotStep, ok, place, step)
	}
}

func wantMessages(t *testing.T, ring []int, want int) {
	t.Helper()
	if got := impl.MessagesOf(ring); got != want {
		t.Errorf("MessagesOf(%v) = %d, want %d", ring, got, want)
	}
}

// wantNoChoice fails unless all that is told of a ring is that it is none.
func wantNoChoice(t *testing.T, ring []int) {
	t.Helper()
	wantRing(t, ring, false)
	if place, step, ok := impl.ChosenAt(ring); place != -1 || step != -1 || ok {
		t.Errorf("ChosenAt(%v) = %d, %d, %v, want -1, -1, false", ring, place, step, ok)
	}
	wantMessages(t, ring, -1)
	wantNone(t, impl.ReachOf(ring), "ReachOf", ring)
}

func TestConstantsOfChapter9(t *testing.T) {
	if impl.MaxRing != 12 || impl.MaxKept != 99 {
		t.Error(impl.MaxRing, impl.MaxKept)
	}
}

// Promise 45: one machine is a ring.
func TestOneMachineIsARing(t *testing.T) {
	for number := -300; number <= 300; number++ {
		wantRing(t, []int{number}, number >= 1 && number <= 99)
	}
}

// Promise 45: a ring without its last machine is one, if it has two or more.
func TestRingWithoutItsLastMachine(t *testing.T) {
	eachRing(func(ring []int) {
		for machines := len(ring); machines >= 1; machines-- {
			wantRing(t, ring[:machines], true)
		}
	})
}

func TestRingsOfFewAndManyMachines(t *testing.T) {
	wantRing(t, nil, false)
	for machines := 0; machines <= impl.MaxKept; machines++ {
		wantRing(t, ascending(machines, 1), machines >= 1 && machines <= 12)
		wantRing(t, reversed(ascending(machines, 1)), machines >= 1 && machines <= 12)
	}
}

// No two machines have the same number, wherever both are.
func TestRingsOfDifferentNumbers(t *testing.T) {
	for machines := 1; machines <= 4; machines++ {
		eachRow(machines, 1, 4, func(ring []int) { wantRing(t, ring, allDifferent(ring)) })
		eachRow(machines, impl.MaxKept-2, impl.MaxKept+1, func(ring []int) {
			wantRing(t, ring, allDifferent(ring) && slices.Max(ring) <= 99)
		})
		eachRow(machines, -1, 3, func(ring []int) {
			wantRing(t, ring, allDifferent(ring) && slices.Min(ring) >= 1)
		})
	}
}

// Promise 46: numbers go on until a greater one.
func TestNumbersGoOnUntilAGreaterOne(t *testing.T) {
	eachRing(func(ring []int) {
		machines := len(ring)
		wantRow(t, impl.SentAt(ring, 0), ring, "SentAt the step 0 of", ring)
		for step := range impl.MaxRing + 1 {
			sent := impl.SentAt(ring, step)
			if len(sent) != machines {
				t.Fatalf("SentAt(%v, %d) = %v", ring, step, sent)
			}
			if got := slices.Contains(sent, slices.Max(ring)); got != (step < machines) {
				t.Errorf("SentAt(%v, %d) = %v, the greatest one: %v", ring, step, sent, got)
			}
			for place, number := range sent {
				if from := (place - step + impl.MaxRing*machines) % machines; number != 0 && number != ring[from] {
					t.Errorf("SentAt(%v, %d) = %v, want %d or 0 at %d", ring, step, sent, ring[from], place)
				}
				if want := sentFromTheLeft(ring, place, step); number != want {
					t.Errorf("SentAt(%v, %d) = %v, want %d at %d", ring, step, sent, want, place)
				}
			}
		}
	})
}

func TestSentMachineByMachine(t *testing.T) {
	eachRing(func(ring []int) {
		for step, want := range sentMachineByMachine(ring, impl.MaxRing) {
			wantRow(t, impl.SentAt(ring, step), want, "SentAt", ring, step)
		}
	})
}

func TestSentByHand(t *testing.T) {
	cases := []struct {
		ring []int
		want [][]int
	}{
		// One machine hears itself, and sends that on no more.
		{[]int{7}, [][]int{{7}, {0}}},
		{[]int{1, 2}, [][]int{{1, 2}, {2, 0}, {0, 0}}},
		{[]int{2, 1}, [][]int{{2, 1}, {0, 2}, {0, 0}}},
		{[]int{3, 1, 2}, [][]int{{3, 1, 2}, {0, 3, 0}, {0, 0, 3}, {0, 0, 0}}},
		{[]int{3, 2, 1}, [][]int{{3, 2, 1}, {0, 3, 2}, {0, 0, 3}, {0, 0, 0}}},
		{[]int{1, 2, 3}, [][]int{{1, 2, 3}, {3, 0, 0}, {0, 3, 0}, {0, 0, 0}}},
		// Numbers that descend, begun at the first and at another place.
		{[]int{9, 7, 5, 1}, [][]int{{9, 7, 5, 1}, {0, 9, 7, 5}, {0, 0, 9, 7}, {0, 0, 0, 9}, {0, 0, 0, 0}}},
		{[]int{5, 1, 9, 7}, [][]int{{5, 1, 9, 7}, {7, 5, 0, 9}, {9, 7, 0, 0}, {0, 9, 0, 0}, {0, 0, 0, 0}}},
		// A number goes past two lesser ones up to a greater one that is not the greatest.
		{[]int{50, 20, 10, 60, 99}, [][]int{{50, 20, 10, 60, 99}, {99, 50, 20, 0, 0}, {0, 99, 50, 0, 0}, {0, 0, 99, 0, 0}, {0, 0, 0, 99, 0}, {0, 0, 0, 0, 0}}},
		// It goes from the last one to the first one too.
		{[]int{1, 4, 99, 2, 3}, [][]int{{1, 4, 99, 2, 3}, {3, 0, 0, 99, 0}, {0, 0, 0, 0, 99}, {99, 0, 0, 0, 0}, {0, 99, 0, 0, 0}, {0, 0, 0, 0, 0}}},
	}
	for _, c := range cases {
		for step := range impl.MaxRing + 1 {
			want := filled(len(c.ring), 0)
			if step < len(c.want) {
				want = c.want[step]
			}
			wantRow(t, impl.SentAt(c.ring, step), want, "SentAt", c.ring, step)
		}
	}
}

// Promise 47: the greatest number is chosen.
func TestTheGreatestNumberIsChosen(t *testing.T) {
	eachRing(func(ring []int) {
		wantChosen(t, ring, slices.Index(ring, slices.Max(ring)), len(ring)-1)
	})
}

// Who is chosen hears its own number in that step, and nobody hears its own one in a step before.
func TestChosenHearsItsOwnNumber(t *testing.T) {
	eachRing(func(ring []int) {
		place, step := chosenMachineByMachine(ring)
		wantChosen(t, ring, place, step)
		for at := range step + 1 {
			heard := roundFrom(impl.SentAt(ring, at), len(ring)-1)
			for other, own := range ring {
				if got := heard[other] == own; got != (at == step && other == place) {
					t.Errorf("%v: in the step %d the machine %d hears %d", ring, at, other, heard[other])
				}
			}
		}
	})
}

func TestChosenByHand(t *testing.T) {
	cases := []struct {
		ring        []int
		place, step int
	}{
		{[]int{1}, 0, 0},
		{[]int{99}, 0, 0},
		{[]int{1, 99}, 1, 1},
		{[]int{99, 1}, 0, 1},
		{[]int{3, 1, 2}, 0, 2},
		{[]int{1, 3, 2}, 1, 2},
		{[]int{2, 1, 3}, 2, 2},
		{[]int{50, 20, 10, 60, 99}, 4, 4},
		{[]int{12, 11, 10, 9, 8, 7, 6, 5, 4, 3, 2, 1}, 0, 11},
		{[]int{1, 2, 3, 4, 5, 6, 7, 8, 9, 10, 11, 12}, 11, 11},
		{[]int{88, 89, 90, 91, 99, 98, 97, 96, 95, 94, 93, 92}, 4, 11},
	}
	for _, c := range cases {
		wantChosen(t, c.ring, c.place, c.step)
	}
}

// Promise 48: orders decide how many messages.
func TestOrdersDecideHowManyMessages(t *testing.T) {
	eachRing(func(ring []int) {
		machines := len(ring)
		got := impl.MessagesOf(ring)
		if want := sumOf(impl.ReachOf(ring)); got != want {
			t.Errorf("MessagesOf(%v) = %d, of ReachOf %d", ring, got, want)
		}
		if got < 2*machines-1 || 2*got > machines*(machines+1) {
			t.Errorf("MessagesOf(%v) = %d", ring, got)
		}
	})
}

// Promise 48: the fewest messages if numbers ascend, the most if they descend, wherever they begin.
func TestMessagesOfOrderedNumbers(t *testing.T) {
	for machines := 1; machines <= impl.MaxRing; machines++ {
		for _, numbers := range [][]int{ascending(machines, 1), ascending(machines, impl.MaxKept-machines+1)} {
			for place := range machines {
				wantMessages(t, roundFrom(numbers, place), 2*machines-1)
				wantMessages(t, roundFrom(reversed(numbers), place), machines*(machines+1)/2)
			}
		}
	}
}

func TestMessagesCounted(t *testing.T) {
	eachRing(func(ring []int) { wantMessages(t, ring, messagesCounted(ring)) })
}

func TestMessagesByHand(t *testing.T) {
	cases := []struct {
		ring []int
		want int
	}{
		{[]int{1}, 1},
		{[]int{99}, 1},
		{[]int{1, 2}, 3},
		{[]int{2, 1}, 3},
		{[]int{3, 1, 2}, 5},
		{[]int{3, 2, 1}, 6},
		{[]int{9, 7, 5, 1}, 10},
		{[]int{9, 1, 5, 7}, 7},
		{[]int{9, 5, 7, 1}, 8},
		{[]int{50, 20, 10, 60, 99}, 12},
		{[]int{12, 11, 10, 9, 8, 7, 6, 5, 4, 3, 2, 1}, 78},
		{[]int{1, 2, 3, 4, 5, 6, 7, 8, 9, 10, 11, 12}, 23},
	}
	for _, c := range cases {
		wantMessages(t, c.ring, c.want)
	}
}

// Promise 49: just one number goes all round.
func TestJustOneNumberGoesAllRound(t *testing.T) {
	eachRing(func(ring []int) {
		machines := len(ring)
		reach := impl.ReachOf(ring)
		if len(reach) != machines {
			t.Fatalf("ReachOf(%v) = %v", ring, reach)
		}
		for place, times := range reach {
			if got := times == machines; got != (ring[place] == slices.Max(ring)) {
				t.Errorf("ReachOf(%v) = %v, all round from %d: %v", ring, reach, place, got)
			}
			if times < 1 || times > machines {
				t.Errorf("ReachOf(%v) = %v", ring, reach)
				continue
			}
			if end := ring[(place+times)%machines]; times < machines && end <= ring[place] {
				t.Errorf("ReachOf(%v) = %v, from %d sent to %d", ring, reach, place, end)
			}
		}
	})
}

// How many times a number is sent is how many machines are before a greater one, and how many times it is there in all steps.
func TestReachCounted(t *testing.T) {
	eachRing(func(ring []int) {
		reach := impl.ReachOf(ring)
		wantRow(t, reach, reachCounted(ring), "ReachOf", ring)
		walked := []int{}
		for place := range ring {
			walked = append(walked, reachWalked(ring, place))
		}
		wantRow(t, reach, walked, "ReachOf", ring)
	})
}

func TestReachByHand(t *testing.T) {
	cases := []struct{ ring, want []int }{
		{[]int{1}, []int{1}},
		{[]int{99}, []int{1}},
		{[]int{1, 2}, []int{1, 2}},
		{[]int{2, 1}, []int{2, 1}},
		{[]int{3, 1, 2}, []int{3, 1, 1}},
		{[]int{3, 2, 1}, []int{3, 2, 1}},
		{[]int{1, 3, 2}, []int{1, 3, 2}},
		{[]int{9, 7, 5, 1}, []int{4, 3, 2, 1}},
		{[]int{5, 1, 9, 7}, []int{2, 1, 4, 3}},
		{[]int{1, 5, 7, 9}, []int{1, 1, 1, 4}},
		{[]int{7, 9, 1, 5}, []int{1, 4, 1, 1}},
		{[]int{50, 20, 10, 60, 99}, []int{3, 2, 1, 1, 5}},
		{[]int{1, 4, 99, 2, 3}, []int{1, 1, 5, 1, 2}},
		{[]int{12, 11, 10, 9, 8, 7, 6, 5, 4, 3, 2, 1}, []int{12, 11, 10, 9, 8, 7, 6, 5, 4, 3, 2, 1}},
		{[]int{1, 2, 3, 4, 5, 6, 7, 8, 9, 10, 11, 12}, []int{1, 1, 1, 1, 1, 1, 1, 1, 1, 1, 1, 12}},
	}
	for _, c := range cases {
		wantRow(t, impl.ReachOf(c.ring), c.want, "ReachOf", c.ring)
	}
}

// Promise 50: where a ring begins does not matter.
func TestWhereARingBeginsDoesNotMatter(t *testing.T) {
	eachRing(func(ring []int) {
		chosen, step, _ := impl.ChosenAt(ring)
		messages := impl.MessagesOf(ring)
		for from := range ring {
			round := impl.WentRound(ring, from)
			if !impl.RingOk(round) {
				t.Fatalf("WentRound(%v, %d) = %v", ring, from, round)
			}
			wantMessages(t, round, messages)
			place, after, _ := impl.ChosenAt(round)
			if round[place] != ring[chosen] || after != step {
				t.Errorf("WentRound(%v, %d) = %v, %d is chosen after %d, of the ring %d after %d", ring, from, round, round[place], after, ring[chosen], step)
			}
		}
	})
}

// All that is told of a ring begun at a place is what is told of the ring, begun there.
func TestWentRoundTellsTheSameBegunThere(t *testing.T) {
	eachRing(func(ring []int) {
		for from := range ring {
			round := roundFrom(ring, from)
			wantRow(t, impl.WentRound(ring, from), round, "WentRound", ring, from)
			wantRow(t, impl.ReachOf(round), roundFrom(impl.ReachOf(ring), from), "ReachOf", round)
			wantRow(t, impl.SentAt(round, 1), roundFrom(impl.SentAt(ring, 1), from), "SentAt the step 1 of", round)
			back := (len(ring) - from) % len(ring)
			wantRow(t, impl.WentRound(round, back), ring, "WentRound and back", ring, from)
		}
	})
}

func TestWentRoundByHand(t *testing.T) {
	cases := []struct {
		ring []int
		from int
		want []int
	}{
		{[]int{7}, 0, []int{7}},
		{[]int{1, 2}, 0, []int{1, 2}},
		{[]int{1, 2}, 1, []int{2, 1}},
		{[]int{3, 1, 2}, 0, []int{3, 1, 2}},
		{[]int{3, 1, 2}, 1, []int{1, 2, 3}},
		{[]int{3, 1, 2}, 2, []int{2, 3, 1}},
		{[]int{12, 11, 10, 9, 8, 7, 6, 5, 4, 3, 2, 1}, 11, []int{1, 12, 11, 10, 9, 8, 7, 6, 5, 4, 3, 2}},
		{[]int{12, 11, 10, 9, 8, 7, 6, 5, 4, 3, 2, 1}, 5, []int{7, 6, 5, 4, 3, 2, 1, 12, 11, 10, 9, 8}},
	}
	for _, c := range cases {
		wantRow(t, impl.WentRound(c.ring, c.from), c.want, "WentRound", c.ring, c.from)
	}
}

func TestNoRings(t *testing.T) {
	eachNoRing(func(ring []int) {
		wantNoChoice(t, ring)
		for _, step := range append(beyond(0, impl.MaxRing), 0, 1, 2, len(ring), impl.MaxRing) {
			wantNone(t, impl.SentAt(ring, step), "SentAt", ring, step)
		}
		for _, from := range append(beyond(0, len(ring)-1), 0, 1, len(ring)-1, impl.MaxRing-1) {
			wantNone(t, impl.WentRound(ring, from), "WentRound", ring, from)
		}
	})
}

func TestSentInNoStep(t *testing.T) {
	eachRing(func(ring []int) {
		for _, step := range append(beyond(0, impl.MaxRing), -2, impl.MaxRing+2) {
			wantNone(t, impl.SentAt(ring, step), "SentAt", ring, step)
		}
	})
}

func TestWentRoundFromNoPlace(t *testing.T) {
	eachRing(func(ring []int) {
		for _, from := range append(beyond(0, len(ring)-1), -2, -len(ring), len(ring)+1, 2*len(ring), impl.MaxRing, impl.MaxRing+1) {
			wantNone(t, impl.WentRound(ring, from), "WentRound", ring, from)
		}
	})
}

func TestRingsShareNoMemory(t *testing.T) {
	for machines := 1; machines <= impl.MaxRing; machines++ {
		for _, ring := range someRings(machines) {
			for _, step := range []int{0, 1, machines - 1, machines, impl.MaxRing} {
				wantApart(t, "SentAt", func(given [][]int) []int { return impl.SentAt(given[0], min(step, impl.MaxRing)) }, ring)
			}
			wantApart(t, "ReachOf", func(given [][]int) []int { return impl.ReachOf(given[0]) }, ring)
			for from := range machines {
				wantApart(t, "WentRound", func(given [][]int) []int { return impl.WentRound(given[0], from) }, ring)
			}
			// What comes from one function is not what comes from another one.
			wantListsApart(t, "rings", func() [][]int {
				return [][]int{impl.SentAt(ring, 0), impl.SentAt(ring, 1), impl.ReachOf(ring), impl.WentRound(ring, 0), impl.WentRound(ring, machines-1)}
			})
		}
	}
}

// What is asked of numbers, such as are a ring or not, changes nothing of them, nor what is behind them in their memory.
func TestRingsChangeNoNumbers(t *testing.T) {
	wantUnchanged := func(numbers []int) {
		given := append(slices.Clone(numbers), 1, 0, 7)
		before := slices.Clone(given)
		asked := given[:len(numbers)]
		impl.RingOk(asked)
		for _, step := range []int{0, 1, impl.MaxRing, math.MaxInt} {
			impl.SentAt(asked, step)
			impl.WentRound(asked, step)
		}
		impl.ChosenAt(asked)
		impl.MessagesOf(asked)
		impl.ReachOf(asked)
		wantRow(t, given, before, "numbers that were asked about", numbers)
	}
	eachRing(wantUnchanged)
	eachNoRing(wantUnchanged)
}
