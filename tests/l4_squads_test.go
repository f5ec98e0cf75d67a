package tests

import (
	"math"
	"slices"
	"testing"

	"loop.example/rowmachines/impl"
)

// roundsCounted returns how often 2 is to be taken times itself to have as many as machines at least.
func roundsCounted(machines int) int {
	rounds := 0
	for power := 1; power < machines; power *= 2 {
		rounds++
	}
	return rounds
}

// fireWalked returns when all machines fire: both signals of each round are walked to the middle of a part.
func fireWalked(machines int) int {
	if machines == 1 {
		return 0
	}
	steps, _ := partWalked(machines-1, 2)
	return steps + fireWalked((machines+1)/2)
}

// divided calls see with each part of the places first..last after so many rounds, from the left on, and tell with each place that is told in them.
func divided(first, last, rounds int, see func(first, last int), tell func(place int)) {
	if rounds == 0 {
		see(first, last)
		return
	}
	far := (last - first) / 2
	tell(first + far)
	tell(last - far)
	divided(first, first+far, rounds-1, see, tell)
	divided(last-far, last, rounds-1, see, tell)
}

// squadDivided returns the parts of a row after so many rounds, and the places that are told.
func squadDivided(machines, rounds int) ([][]int, []int) {
	var parts [][]int
	told := []int{0}
	divided(0, machines-1, rounds, func(first, last int) {
		parts = append(parts, []int{first, last})
	}, func(place int) {
		told = append(told, place)
	})
	slices.Sort(told)
	return parts, slices.Compact(told)
}

// eachSquad calls see with each number of machines and of rounds that these have.
func eachSquad(see func(machines, rounds int)) {
	for machines := 1; machines <= impl.MaxCells; machines++ {
		for rounds := 0; rounds <= roundsCounted(machines); rounds++ {
			see(machines, rounds)
		}
	}
}

// eachBadSquad calls see with machines that are no row, and with rounds that a row does not have.
func eachBadSquad(see func(machines, rounds int)) {
	for _, machines := range append(beyond(1, impl.MaxCells), -1, -2) {
		for rounds := -1; rounds <= 7; rounds++ {
			see(machines, rounds)
		}
		see(machines, machines)
		see(machines, -machines)
	}
	for machines := 1; machines <= impl.MaxCells; machines++ {
		for _, rounds := range append(beyond(0, roundsCounted(machines)), machines+6) {
			see(machines, rounds)
		}
	}
}

func wantFire(t *testing.T, machines, want int) {
	t.Helper()
	if got := impl.FireAt(machines); got != want {
		t.Errorf("FireAt(%d) = %d, want %d", machines, got, want)
	}
}

// wantParts fails unless the parts are those that are wanted.
func wantParts(t *testing.T, got, want [][]int, machines, rounds int) {
	t.Helper()
	if !slices.EqualFunc(got, want, slices.Equal[[]int]) {
		t.Errorf("PartsAfter(%d, %d) = %v, want %v", machines, rounds, got, want)
	}
}

// Promise 16: halves of halves end.
func TestHalvesOfHalvesEnd(t *testing.T) {
	for machines := 2; machines <= impl.MaxCells; machines++ {
		rounds := impl.RoundsOf(machines)
		if len(rounds) != roundsCounted(machines) {
			t.Fatalf("RoundsOf(%d) = %v, want %d rounds", machines, rounds, roundsCounted(machines))
		}
		if rounds[0] != machines {
			t.Errorf("RoundsOf(%d) = %v, not from all machines on", machines, rounds)
		}
		for i, inPart := range rounds[1:] {
			if before := rounds[i]; inPart != before/2+before%2 {
				t.Errorf("RoundsOf(%d) = %v, where %d is not half of %d, rounded up", machines, rounds, inPart, before)
			}
		}
		if last := rounds[len(rounds)-1]; last != 2 {
			t.Errorf("RoundsOf(%d) = %v, the last one not 2", machines, rounds)
		}
	}
	wantNone(t, impl.RoundsOf(1), "RoundsOf", 1)
}

func TestSquadRoundsByHand(t *testing.T) {
	cases := []struct {
		machines int
		rounds   []int
	}{
		{1, nil},
		{2, []int{2}},
		{3, []int{3, 2}},
		{4, []int{4, 2}},
		{5, []int{5, 3, 2}},
		{6, []int{6, 3, 2}},
		{7, []int{7, 4, 2}},
		{8, []int{8, 4, 2}},
		{9, []int{9, 5, 3, 2}},
		{15, []int{15, 8, 4, 2}},
		{16, []int{16, 8, 4, 2}},
		{17, []int{17, 9, 5, 3, 2}},
		{31, []int{31, 16, 8, 4, 2}},
		{32, []int{32, 16, 8, 4, 2}},
		{33, []int{33, 17, 9, 5, 3, 2}},
		{39, []int{39, 20, 10, 5, 3, 2}},
		{40, []int{40, 20, 10, 5, 3, 2}},
	}
	for _, c := range cases {
		wantRow(t, impl.RoundsOf(c.machines), c.rounds, "RoundsOf", c.machines)
	}
}

func TestSquadRoundsOfNone(t *testing.T) {
	for _, machines := range append(beyond(1, impl.MaxCells), -1, -2) {
		wantNone(t, impl.RoundsOf(machines), "RoundsOf", machines)
	}
}

// Promise 17: all fire after three steps for each machine, at most.
func TestAllFireAfterThreeStepsForEachMachineAtMost(t *testing.T) {
	wantFire(t, 1, 0)
	for machines := 2; machines <= impl.MaxCells; machines++ {
		got := impl.FireAt(machines)
		if got > 3*machines || got < 2*machines-2 {
			t.Errorf("FireAt(%d) = %d", machines, got)
		}
		middle, _, _ := impl.MiddleAt(machines - 1)
		wantFire(t, machines, middle+impl.FireAt(machines/2+machines%2))
		wantFire(t, machines, fireWalked(machines))
		sum := 0
		for _, inPart := range impl.RoundsOf(machines) {
			found, _, _ := impl.MiddleAt(inPart - 1)
			sum += found
		}
		wantFire(t, machines, sum)
	}
}

func TestFireByHand(t *testing.T) {
	cases := []struct{ machines, want int }{
		{1, 0}, {2, 2}, {3, 3 + 2}, {4, 5 + 2}, {5, 6 + 3 + 2}, {6, 8 + 3 + 2}, {7, 9 + 5 + 2}, {8, 11 + 5 + 2}, {9, 12 + 6 + 3 + 2},
		{15, 21 + 11 + 5 + 2}, {16, 23 + 11 + 5 + 2}, {17, 24 + 12 + 6 + 3 + 2},
		{31, 86}, {32, 88}, {33, 95}, {39, 111}, {40, 113},
	}
	for _, c := range cases {
		wantFire(t, c.machines, c.want)
	}
}

func TestFireOfNone(t *testing.T) {
	for _, machines := range append(beyond(1, impl.MaxCells), -1, -2) {
		wantFire(t, machines, -1)
	}
}

// Promise 18: all parts are as long.
func TestAllPartsAreAsLong(t *testing.T) {
	eachSquad(func(machines, rounds int) {
		parts := impl.PartsAfter(machines, rounds)
		if len(parts) != 1<<rounds {
			t.Fatalf("PartsAfter(%d, %d) = %v, want %d parts", machines, rounds, parts, 1<<rounds)
		}
		inPart := append(impl.RoundsOf(machines), 1)[rounds]
		for i, part := range parts {
			if len(part) != 2 || part[1]-part[0]+1 != inPart {
				t.Fatalf("PartsAfter(%d, %d) = %v, where %v has not %d machines", machines, rounds, parts, part, inPart)
			}
			if i > 0 && part[0] != parts[i-1][1] && part[0] != parts[i-1][1]+1 {
				t.Errorf("PartsAfter(%d, %d) = %v, where %v does not follow", machines, rounds, parts, part)
			}
		}
		if first, last := parts[0][0], parts[len(parts)-1][1]; first != 0 || last != machines-1 {
			t.Errorf("PartsAfter(%d, %d) = %v, not from end to end", machines, rounds, parts)
		}
	})
}

// Both halves have the one middle of a part, and are divided between two.
func TestPartsAreDividedAtTheirMiddles(t *testing.T) {
	eachSquad(func(machines, rounds int) {
		want, _ := squadDivided(machines, rounds)
		wantParts(t, impl.PartsAfter(machines, rounds), want, machines, rounds)
		if rounds == 0 {
			return
		}
		next := impl.PartsAfter(machines, rounds)
		for i, whole := range impl.PartsAfter(machines, rounds-1) {
			middles := impl.MiddlesOf(whole[1] - whole[0])
			left, right := next[2*i], next[2*i+1]
			if left[1] != whole[0]+middles[0] || right[0] != whole[0]+middles[len(middles)-1] {
				t.Errorf("PartsAfter(%d, %d): %v is divided into %v and %v", machines, rounds, whole, left, right)
			}
		}
	})
}

func TestSquadPartsByHand(t *testing.T) {
	cases := []struct {
		machines, rounds int
		parts            [][]int
		told             []int
	}{
		// One machine has no round and is told at once; two have one round.
		{1, 0, [][]int{{0, 0}}, []int{0}},
		{2, 0, [][]int{{0, 1}}, []int{0}},
		{2, 1, [][]int{{0, 0}, {1, 1}}, []int{0, 1}},
		// Both halves have the middle.
		{3, 1, [][]int{{0, 1}, {1, 2}}, []int{0, 1}},
		{3, 2, [][]int{{0, 0}, {1, 1}, {1, 1}, {2, 2}}, []int{0, 1, 2}},
		{9, 1, [][]int{{0, 4}, {4, 8}}, []int{0, 4}},
		{9, 2, [][]int{{0, 2}, {2, 4}, {4, 6}, {6, 8}}, []int{0, 2, 4, 6}},
		{9, 3, [][]int{{0, 1}, {1, 2}, {2, 3}, {3, 4}, {4, 5}, {5, 6}, {6, 7}, {7, 8}}, []int{0, 1, 2, 3, 4, 5, 6, 7}},
		{9, 4, [][]int{{0, 0}, {1, 1}, {1, 1}, {2, 2}, {2, 2}, {3, 3}, {3, 3}, {4, 4}, {4, 4}, {5, 5}, {5, 5}, {6, 6}, {6, 6}, {7, 7}, {7, 7}, {8, 8}}, []int{0, 1, 2, 3, 4, 5, 6, 7, 8}},
		// They are divided between both middles.
		{4, 1, [][]int{{0, 1}, {2, 3}}, []int{0, 1, 2}},
		{4, 2, [][]int{{0, 0}, {1, 1}, {2, 2}, {3, 3}}, []int{0, 1, 2, 3}},
		{8, 1, [][]int{{0, 3}, {4, 7}}, []int{0, 3, 4}},
		{8, 2, [][]int{{0, 1}, {2, 3}, {4, 5}, {6, 7}}, []int{0, 1, 2, 3, 4, 5, 6}},
		// First the one, then the other.
		{6, 1, [][]int{{0, 2}, {3, 5}}, []int{0, 2, 3}},
		{6, 2, [][]int{{0, 1}, {1, 2}, {3, 4}, {4, 5}}, []int{0, 1, 2, 3, 4}},
		{7, 1, [][]int{{0, 3}, {3, 6}}, []int{0, 3}},
		{7, 2, [][]int{{0, 1}, {2, 3}, {3, 4}, {5, 6}}, []int{0, 1, 2, 3, 4, 5}},
		{40, 0, [][]int{{0, 39}}, []int{0}},
		{40, 1, [][]int{{0, 19}, {20, 39}}, []int{0, 19, 20}},
		{40, 2, [][]int{{0, 9}, {10, 19}, {20, 29}, {30, 39}}, []int{0, 9, 10, 19, 20, 29, 30}},
		{40, 3, [][]int{{0, 4}, {5, 9}, {10, 14}, {15, 19}, {20, 24}, {25, 29}, {30, 34}, {35, 39}}, []int{0, 4, 5, 9, 10, 14, 15, 19, 20, 24, 25, 29, 30, 34, 35}},
	}
	for _, c := range cases {
		wantParts(t, impl.PartsAfter(c.machines, c.rounds), c.parts, c.machines, c.rounds)
		wantRow(t, impl.ToldAfter(c.machines, c.rounds), c.told, "ToldAfter", c.machines, c.rounds)
	}
}

func TestSquadPartsOfNone(t *testing.T) {
	eachBadSquad(func(machines, rounds int) {
		if parts := impl.PartsAfter(machines, rounds); len(parts) != 0 {
			t.Errorf("PartsAfter(%d, %d) = %v, want nil", machines, rounds, parts)
		}
	})
}

// Promise 19: after the last round all are told.
func TestAfterTheLastRoundAllAreTold(t *testing.T) {
	for machines := 1; machines <= impl.MaxCells; machines++ {
		rounds := roundsCounted(machines)
		all := make([]int, machines)
		for place := range all {
			all[place] = place
		}
		wantRow(t, impl.ToldAfter(machines, rounds), all, "ToldAfter", machines, rounds)
		if rounds == 0 {
			continue
		}
		if told := impl.ToldAfter(machines, rounds-1); len(told) >= machines {
			t.Errorf("ToldAfter(%d, %d) = %v, all before the last round", machines, rounds-1, told)
		}
	}
}

func TestNoPlaceToldIsToldNoMore(t *testing.T) {
	eachSquad(func(machines, rounds int) {
		if rounds == 0 {
			wantRow(t, impl.ToldAfter(machines, 0), []int{0}, "ToldAfter", machines, 0)
			return
		}
		now := impl.ToldAfter(machines, rounds)
		for _, place := range impl.ToldAfter(machines, rounds-1) {
			if !slices.Contains(now, place) {
				t.Errorf("ToldAfter(%d, %d) = %v, where %d is told no more", machines, rounds, now, place)
			}
		}
	})
}

func TestToldAreTheMiddles(t *testing.T) {
	eachSquad(func(machines, rounds int) {
		_, want := squadDivided(machines, rounds)
		wantRow(t, impl.ToldAfter(machines, rounds), want, "ToldAfter", machines, rounds)
	})
}

// In each part one of the ends is told at least, so that it can send the signals of its next round.
func TestEachPartHasAnEndThatIsTold(t *testing.T) {
	eachSquad(func(machines, rounds int) {
		told := impl.ToldAfter(machines, rounds)
		for _, part := range impl.PartsAfter(machines, rounds) {
			if !slices.Contains(told, part[0]) && !slices.Contains(told, part[1]) {
				t.Errorf("ToldAfter(%d, %d) = %v, nobody at an end of %v", machines, rounds, told, part)
			}
		}
	})
}

func TestToldOfNone(t *testing.T) {
	eachBadSquad(func(machines, rounds int) {
		wantNone(t, impl.ToldAfter(machines, rounds), "ToldAfter", machines, rounds)
	})
}

func TestSquadsShareNoMemory(t *testing.T) {
	for machines := 2; machines <= impl.MaxCells; machines++ {
		wantApart(t, "RoundsOf", func([][]int) []int { return impl.RoundsOf(machines) })
	}
	eachSquad(func(machines, rounds int) {
		wantApart(t, "ToldAfter", func([][]int) []int { return impl.ToldAfter(machines, rounds) })
		wantListsApart(t, "PartsAfter", func() [][]int { return impl.PartsAfter(machines, rounds) })
	})
	rounds, told := impl.RoundsOf(40), impl.ToldAfter(40, 6)
	wanted := slices.Clone(told)
	overwrite(rounds, math.MinInt)
	wantRow(t, told, wanted, "ToldAfter after the result of RoundsOf was written to")
	wanted = impl.RoundsOf(40)
	overwrite(told, math.MinInt)
	wantRow(t, impl.RoundsOf(40), wanted, "RoundsOf after the result of ToldAfter was written to")
}
