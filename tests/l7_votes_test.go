package tests

import (
	"math"
	"slices"
	"testing"

	"loop.example/rowmachines/impl"
)

// differing returns a row of which each two machines beside each other differ.
func differing(machines, first int) []int {
	row := make([]int, machines)
	for place := range row {
		row[place] = (first + place) % 2
	}
	return row
}

// differingPieces are rows of so many machines with a piece that differs at each place at the left end, at the right end, between two that are firm, and twice with firm ones in the middle.
func differingPieces(machines, first int) [][]int {
	var rows [][]int
	for piece := 1; piece <= machines; piece++ {
		differs := differing(piece, first)
		others := machines - piece
		left, right := differs[0], differs[piece-1]
		rows = append(rows,
			slices.Concat(differs, filled(others, right)),
			slices.Concat(filled(others, left), differs),
			slices.Concat(filled(others/2, left), differs, filled(others-others/2, right)),
		)
		if others >= piece {
			rows = append(rows, slices.Concat(differs, filled(others-piece, right), differing(piece, right)))
		}
	}
	return rows
}

// eachVotes calls see with rows of votes: all of few machines, and of each number of machines such as differ at each place or in pieces, are the same at all places or at all but one, and drawn ones.
func eachVotes(see func(row []int)) {
	for machines := 1; machines <= 9; machines++ {
		eachRow(machines, 0, 1, see)
	}
	draw := drawer()
	for machines := 1; machines <= impl.MaxCells; machines++ {
		for vote := range 2 {
			see(filled(machines, vote))
			for place := range machines {
				see(with(filled(machines, vote), place, 1-vote))
			}
			see(differing(machines, vote))
			for _, row := range differingPieces(machines, vote) {
				see(row)
			}
		}
		for range 10 {
			see(drawRow(draw, 2, machines))
		}
	}
}

// eachNoVotes calls see with rows that are none, one thing wrong at a time.
func eachNoVotes(see func(row []int)) {
	for _, machines := range []int{0, impl.MaxCells + 1, impl.MaxCells + 2, 63, 64, 65, 1000} {
		see(filled(machines, 0))
		see(filled(machines, 1))
		see(differing(machines, 1))
	}
	see(nil)
	for machines := 1; machines <= impl.MaxCells; machines++ {
		for place := range machines {
			for _, wrong := range append(beyond(0, 1), -2, 3) {
				see(with(filled(machines, 0), place, wrong))
				see(with(differing(machines, 1), place, wrong))
			}
		}
	}
}

// votedMachineByMachine is a step as the document tells it: those that are for it are counted, for each machine.
func votedMachineByMachine(row []int) []int {
	next := []int{}
	for place, own := range row {
		left, right := own, own
		if place > 0 {
			left = row[place-1]
		}
		if place < len(row)-1 {
			right = row[place+1]
		}
		next = append(next, asNumber(left+own+right >= 2))
	}
	return next
}

// firmIn tells whether a machine agrees with a neighbour, or is at an end.
func firmIn(row []int, place int) bool {
	if place == 0 || place == len(row)-1 {
		return true
	}
	return row[place] == row[place-1] || row[place] == row[place+1]
}

// nearestFirm returns the nearest firm place, and how many places it is away. If there are two, as near on both sides, they agree.
func nearestFirm(row []int, place int) (int, int) {
	for away := 0; ; away++ {
		for _, there := range []int{place - away, place + away} {
			if there >= 0 && there < len(row) && firmIn(row, there) {
				return there, away
			}
		}
	}
}

// votedByNearestFirm is a row after so many steps without the steps between: a machine does as the nearest firm one as soon as there are as many steps as places to it, and changes in each step before.
func votedByNearestFirm(row []int, steps int) []int {
	next := []int{}
	for place, own := range row {
		firm, away := nearestFirm(row, place)
		if away <= steps {
			next = append(next, row[firm])
		} else {
			next = append(next, (own+steps)%2)
		}
	}
	return next
}

// settledByNearestFirm returns how far the farthest machine is from a firm one.
func settledByNearestFirm(row []int) int {
	farthest := 0
	for place := range row {
		_, away := nearestFirm(row, place)
		farthest = max(farthest, away)
	}
	return farthest
}

func wantVotes(t *testing.T, row []int, want bool) {
	t.Helper()
	if got := impl.VotesOk(row); got != want {
		t.Errorf("VotesOk(%v) = %v", row, got)
	}
}

func wantSettled(t *testing.T, row []int, want int) {
	t.Helper()
	if got := impl.SettledAfter(row); got != want {
		t.Errorf("SettledAfter(%v) = %d, want %d", row, got, want)
	}
}

// wantVotedRows fails unless a row goes through these in turn, and then stays as it is.
func wantVotedRows(t *testing.T, rows ...[]int) {
	t.Helper()
	for steps := 0; steps <= impl.MaxSteps; steps++ {
		want := rows[min(steps, len(rows)-1)]
		wantRow(t, impl.VotedAfter(rows[0], steps), want, "VotedAfter", rows[0], steps)
		wantRow(t, impl.VotedOf(want), rows[min(steps+1, len(rows)-1)], "VotedOf", want)
	}
	wantSettled(t, rows[0], len(rows)-1)
}

// Promise 33: all against are a row.
func TestAllAgainstAreARow(t *testing.T) {
	for machines := 0; machines <= impl.MaxCells+3; machines++ {
		want := machines >= 1 && machines <= 40
		wantVotes(t, filled(machines, 0), want)
		wantVotes(t, filled(machines, 1), want)
		wantVotes(t, differing(machines, 0), want)
		wantVotes(t, differing(machines, 1), want)
	}
}

func TestVotesAreNoughtsAndOnes(t *testing.T) {
	for machines := 1; machines <= 5; machines++ {
		eachRow(machines, -1, 2, func(row []int) {
			wantVotes(t, row, slices.Min(row) >= 0 && slices.Max(row) <= 1)
		})
	}
	eachVotes(func(row []int) { wantVotes(t, row, true) })
	eachNoVotes(func(row []int) { wantVotes(t, row, false) })
}

// Promise 34: who agrees with a neighbour stays, and all others are changed.
func TestWhoAgreesWithANeighbourStays(t *testing.T) {
	eachVotes(func(row []int) {
		firm, voted := impl.FirmOf(row), impl.VotedOf(row)
		if len(voted) != len(row) {
			t.Fatalf("VotedOf(%v) = %v", row, voted)
		}
		firmAfter := impl.FirmOf(voted)
		for place, own := range row {
			want := 1 - own
			if slices.Contains(firm, place) {
				want = own
				if !slices.Contains(firmAfter, place) {
					t.Errorf("%d is firm in %v, but not in %v after a step", place, row, voted)
				}
			}
			if voted[place] != want {
				t.Errorf("VotedOf(%v) = %v, with %v firm", row, voted, firm)
			}
		}
	})
}

func TestVotesMachineByMachine(t *testing.T) {
	eachVotes(func(row []int) {
		wantRow(t, impl.VotedOf(row), votedMachineByMachine(row), "VotedOf", row)
	})
}

func TestVotesByHand(t *testing.T) {
	// One machine, and two, are both ends: they count themselves twice.
	wantVotedRows(t, []int{0})
	wantVotedRows(t, []int{1})
	for _, row := range [][]int{{0, 0}, {0, 1}, {1, 0}, {1, 1}} {
		wantVotedRows(t, row)
	}
	wantVotedRows(t, []int{0, 1, 0}, []int{0, 0, 0})
	wantVotedRows(t, []int{1, 0, 1}, []int{1, 1, 1})
	wantVotedRows(t, []int{0, 1, 1})
	wantVotedRows(t, []int{1, 0, 0})
	// Each two beside each other differ.
	wantVotedRows(t, []int{0, 1, 0, 1}, []int{0, 0, 1, 1})
	wantVotedRows(t, []int{1, 0, 1, 0}, []int{1, 1, 0, 0})
	wantVotedRows(t, []int{0, 1, 0, 1, 0}, []int{0, 0, 1, 0, 0}, []int{0, 0, 0, 0, 0})
	wantVotedRows(t, []int{1, 0, 1, 0, 1}, []int{1, 1, 0, 1, 1}, []int{1, 1, 1, 1, 1})
	wantVotedRows(t, []int{1, 0, 1, 0, 1, 0}, []int{1, 1, 0, 1, 0, 0}, []int{1, 1, 1, 0, 0, 0})
	// Such a piece at the left end, at the right end and between two that are firm.
	wantVotedRows(t, []int{1, 0, 1, 0, 0}, []int{1, 1, 0, 0, 0})
	wantVotedRows(t, []int{1, 0, 1, 0, 1, 1}, []int{1, 1, 0, 1, 1, 1}, []int{1, 1, 1, 1, 1, 1})
	wantVotedRows(t, []int{0, 0, 1, 0, 1}, []int{0, 0, 0, 1, 1})
	wantVotedRows(t, []int{0, 0, 1, 0, 1, 1}, []int{0, 0, 0, 1, 1, 1})
	wantVotedRows(t, []int{1, 1, 0, 1, 0, 1, 1}, []int{1, 1, 1, 0, 1, 1, 1}, []int{1, 1, 1, 1, 1, 1, 1})
	// Two such pieces, with firm ones between them.
	wantVotedRows(t, []int{0, 1, 0, 0, 1, 0, 1, 1}, []int{0, 0, 0, 0, 0, 1, 1, 1})
	wantVotedRows(t, []int{0, 1, 0, 1, 1, 0, 1, 0, 1, 0, 0}, []int{0, 0, 1, 1, 1, 1, 0, 1, 0, 0, 0}, []int{0, 0, 1, 1, 1, 1, 1, 0, 0, 0, 0})
	// Each one agrees with a neighbour, or is at an end.
	wantVotedRows(t, []int{0, 0, 1, 1, 0, 0})
	wantVotedRows(t, []int{1, 0, 0, 1, 1, 1, 0})
}

// Promise 35: with one step more it is one step on.
func TestVotingGoesOnStepByStep(t *testing.T) {
	eachVotes(func(row []int) {
		want := row
		for steps := 0; steps <= impl.MaxSteps; steps++ {
			got := impl.VotedAfter(row, steps)
			wantRow(t, got, want, "VotedAfter", row, steps)
			want = votedMachineByMachine(want)
			if steps < impl.MaxSteps {
				wantRow(t, impl.VotedAfter(row, steps+1), impl.VotedOf(got), "one step on", row, steps)
			}
		}
	})
}

// Promise 35: after half as many steps all is settled.
func TestAfterHalfAsManyStepsAllIsSettled(t *testing.T) {
	eachVotes(func(row []int) {
		for steps := len(row) / 2; steps <= impl.MaxSteps; steps++ {
			got := impl.VotedAfter(row, steps)
			if len(got) != len(row) {
				t.Fatalf("VotedAfter(%v, %d) = %v", row, steps, got)
			}
			wantRow(t, impl.VotedOf(got), got, "a further step", row, steps)
			wantSettled(t, got, 0)
		}
	})
}

func TestVotesByTheNearestFirmMachine(t *testing.T) {
	eachVotes(func(row []int) {
		for steps := range len(row)/2 + 2 {
			wantRow(t, impl.VotedAfter(row, steps), votedByNearestFirm(row, steps), "VotedAfter", row, steps)
		}
		wantRow(t, impl.VotedAfter(row, impl.MaxSteps), votedByNearestFirm(row, impl.MaxSteps), "VotedAfter", row, impl.MaxSteps)
		wantSettled(t, row, settledByNearestFirm(row))
	})
}

// Promise 36: no row takes longer than half of it.
func TestNoRowTakesLongerThanHalfOfIt(t *testing.T) {
	eachVotes(func(row []int) {
		steps := impl.SettledAfter(row)
		if steps < 0 || 2*steps > len(row)-1 {
			t.Fatalf("SettledAfter(%v) = %d", row, steps)
		}
		settled := impl.VotedAfter(row, steps)
		wantRow(t, impl.VotedOf(settled), settled, "a step of what is settled", row, steps)
		if steps > 0 {
			before := impl.VotedAfter(row, steps-1)
			if slices.Equal(impl.VotedOf(before), before) {
				t.Errorf("SettledAfter(%v) = %d, but %v is settled one step before", row, steps, before)
			}
		}
		first, now := 0, row
		for next := votedMachineByMachine(now); !slices.Equal(next, now); next = votedMachineByMachine(now) {
			first, now = first+1, next
		}
		wantSettled(t, row, first)
	})
}

// A row that differs at each place takes as long as its number of machines may: it becomes the same from both ends on.
func TestRowsThatDifferAtEachPlace(t *testing.T) {
	for machines := 1; machines <= impl.MaxCells; machines++ {
		for first := range 2 {
			row := differing(machines, first)
			wantSettled(t, row, (machines-1)/2)
			ends := []int{0}
			if machines > 1 {
				ends = []int{0, machines - 1}
			}
			wantRow(t, impl.FirmOf(row), ends, "FirmOf", row)
			last := row[machines-1]
			for steps := 0; steps <= (machines-1)/2; steps++ {
				between := max(machines-2*(steps+1), 0)
				firmLeft := min(steps+1, (machines+1)/2)
				want := slices.Concat(filled(firmLeft, first), differing(between, 1-first), filled(machines-between-firmLeft, last))
				wantRow(t, impl.VotedAfter(row, steps), want, "VotedAfter", row, steps)
			}
			settled := slices.Concat(filled(machines-machines/2, first), filled(machines/2, last))
			wantRow(t, impl.VotedAfter(row, impl.MaxSteps), settled, "VotedAfter", row, impl.MaxSteps)
		}
	}
	for _, machines := range []int{impl.MaxCells, impl.MaxCells - 1} {
		wantSettled(t, differing(machines, 0), 19)
		wantSettled(t, differing(machines, 1), 19)
	}
}

func TestRowsThatAgreeAtAllPlaces(t *testing.T) {
	for machines := 1; machines <= impl.MaxCells; machines++ {
		for vote := range 2 {
			row := filled(machines, vote)
			wantVotedRows(t, row)
			wantRow(t, impl.FirmOf(row), ascending(machines, 0), "FirmOf", row)
			wantRow(t, impl.OpposedOf(row), filled(machines, 1-vote), "OpposedOf", row)
		}
	}
}

// Alone against all others, a machine at an end counts itself twice, and its neighbour the others; another one gives way at once.
func TestAloneAgainstAllOthers(t *testing.T) {
	for machines := 3; machines <= impl.MaxCells; machines++ {
		for vote := range 2 {
			all := filled(machines, vote)
			for place := range machines {
				row := with(all, place, 1-vote)
				if place == 0 || place == machines-1 {
					wantVotedRows(t, row)
				} else {
					wantVotedRows(t, row, all)
				}
			}
		}
	}
}

// Promise 37: settled rows are firm at all places, and no others are.
func TestSettledRowsAreFirmAtAllPlaces(t *testing.T) {
	eachVotes(func(row []int) {
		firm := impl.FirmOf(row)
		if settled := impl.SettledAfter(row) == 0; settled != (len(firm) == len(row)) {
			t.Errorf("%v is settled: %v, with %v firm", row, settled, firm)
		}
		if !slices.Contains(firm, 0) || !slices.Contains(firm, len(row)-1) {
			t.Errorf("FirmOf(%v) = %v, without an end", row, firm)
		}
		wantRow(t, impl.FirmOf(impl.VotedAfter(row, len(row)/2)), ascending(len(row), 0), "FirmOf the settled row of", row)
	})
}

func TestFirmPlaceByPlace(t *testing.T) {
	eachVotes(func(row []int) {
		want := []int{}
		for place := range row {
			if firmIn(row, place) {
				want = append(want, place)
			}
		}
		wantRow(t, impl.FirmOf(row), want, "FirmOf", row)
	})
}

func TestFirmByHand(t *testing.T) {
	cases := []struct{ row, want []int }{
		{[]int{0}, []int{0}},
		{[]int{1}, []int{0}},
		{[]int{0, 1}, []int{0, 1}},
		{[]int{1, 1}, []int{0, 1}},
		{[]int{0, 1, 0}, []int{0, 2}},
		{[]int{0, 1, 1}, []int{0, 1, 2}},
		{[]int{1, 0, 1, 0}, []int{0, 3}},
		{[]int{1, 0, 1, 0, 0}, []int{0, 3, 4}},
		{[]int{0, 0, 1, 0, 1}, []int{0, 1, 4}},
		{[]int{0, 0, 1, 0, 1, 1}, []int{0, 1, 4, 5}},
		{[]int{0, 1, 0, 0, 1, 0, 1, 1}, []int{0, 2, 3, 6, 7}},
		{[]int{0, 0, 0, 1, 0, 0, 0}, []int{0, 1, 2, 4, 5, 6}},
	}
	for _, c := range cases {
		wantRow(t, impl.FirmOf(c.row), c.want, "FirmOf", c.row)
	}
}

// Promise 38: turned votes turn the outcome.
func TestTurnedVotesTurnTheOutcome(t *testing.T) {
	eachVotes(func(row []int) {
		opposed := impl.OpposedOf(row)
		if len(opposed) != len(row) {
			t.Fatalf("OpposedOf(%v) = %v", row, opposed)
		}
		wantVotes(t, opposed, true)
		wantRow(t, impl.VotedOf(opposed), impl.OpposedOf(impl.VotedOf(row)), "VotedOf the opposed of", row)
		wantRow(t, impl.OpposedOf(opposed), row, "opposed twice", row)
		wantSettled(t, opposed, impl.SettledAfter(row))
		wantRow(t, impl.FirmOf(opposed), impl.FirmOf(row), "FirmOf the opposed of", row)
	})
}

func TestOpposedPlaceByPlace(t *testing.T) {
	eachVotes(func(row []int) {
		want := []int{}
		for _, vote := range row {
			want = append(want, 1-vote)
		}
		wantRow(t, impl.OpposedOf(row), want, "OpposedOf", row)
	})
	wantRow(t, impl.OpposedOf([]int{0}), []int{1}, "OpposedOf", 0)
	wantRow(t, impl.OpposedOf([]int{1, 0, 0}), []int{0, 1, 1}, "OpposedOf", 1, 0, 0)
}

func TestVotesOfNone(t *testing.T) {
	steps := append(beyond(0, impl.MaxSteps), 0, 1, impl.MaxSteps)
	eachNoVotes(func(row []int) {
		wantNone(t, impl.VotedOf(row), "VotedOf", row)
		for _, many := range steps {
			wantNone(t, impl.VotedAfter(row, many), "VotedAfter", row, many)
		}
		wantSettled(t, row, -1)
		wantNone(t, impl.FirmOf(row), "FirmOf", row)
		wantNone(t, impl.OpposedOf(row), "OpposedOf", row)
	})
}

func TestVotesByNoSteps(t *testing.T) {
	eachVotes(func(row []int) {
		for _, steps := range append(beyond(0, impl.MaxSteps), -2, impl.MaxSteps+2) {
			wantNone(t, impl.VotedAfter(row, steps), "VotedAfter", row, steps)
		}
	})
}

func TestVotesShareNoMemory(t *testing.T) {
	eachVotes(func(row []int) {
		wantApart(t, "VotedOf", func(given [][]int) []int { return impl.VotedOf(given[0]) }, row)
		for _, steps := range []int{0, 1, len(row) / 2, impl.MaxSteps} {
			wantApart(t, "VotedAfter", func(given [][]int) []int { return impl.VotedAfter(given[0], steps) }, row)
		}
		wantApart(t, "FirmOf", func(given [][]int) []int { return impl.FirmOf(given[0]) }, row)
		wantApart(t, "OpposedOf", func(given [][]int) []int { return impl.OpposedOf(given[0]) }, row)
		// What comes from one function is not what comes from another one.
		wantListsApart(t, "votes", func() [][]int {
			return [][]int{impl.VotedOf(row), impl.VotedAfter(row, 0), impl.VotedAfter(row, 1), impl.FirmOf(row), impl.OpposedOf(row)}
		})
	})
}

// What is asked of a row, one that is ok or not, changes nothing of it, nor what is behind it in its memory.
func TestVotesChangeNoRow(t *testing.T) {
	wantUnchanged := func(row []int) {
		given := append(slices.Clone(row), 1, 0, 7)
		before := slices.Clone(given)
		asked := given[:len(row)]
		impl.VotesOk(asked)
		impl.VotedOf(asked)
		impl.VotedAfter(asked, 0)
		impl.VotedAfter(asked, impl.MaxSteps)
		impl.VotedAfter(asked, math.MinInt)
		impl.SettledAfter(asked)
		impl.FirmOf(asked)
		impl.OpposedOf(asked)
		wantRow(t, given, before, "a row that was asked about", row)
	}
	eachVotes(wantUnchanged)
	eachNoVotes(wantUnchanged)
}
