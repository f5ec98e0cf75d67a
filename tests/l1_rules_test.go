package tests

import (
	"math"
	"math/rand"
	"slices"
	"testing"

	"loop.example/rowmachines/impl"
)

// These rules have 2 states, and a machine becomes: what its left neighbour was; the sum of both neighbours less what
// 2 divides; rule 110, which is not the same from the other side.
var (
	goRight  = []int{0, 0, 0, 0, 1, 1, 1, 1}
	sumOfTwo = []int{0, 1, 0, 1, 1, 0, 1, 0}
	rule110  = []int{0, 1, 1, 1, 0, 1, 1, 0}
)

func drawRow(draw *rand.Rand, states, machines int) []int {
	row := make([]int, machines)
	for place := range row {
		row[place] = draw.Intn(states)
	}
	return row
}

func drawRule(draw *rand.Rand, states int) []int {
	return with(drawRow(draw, states, states*states*states), 0, 0)
}

// expectedStep is a step as the document tells it, over a row with one machine at rest put beyond each end.
func expectedStep(row, rule []int, states int) []int {
	padded := slices.Concat([]int{0}, row, []int{0})
	next := []int{}
	for i := 1; i <= len(row); i++ {
		next = append(next, rule[padded[i-1]*states*states+padded[i]*states+padded[i+1]])
	}
	return next
}

func expectedRun(row, rule []int, states, steps int) []int {
	for range steps {
		row = expectedStep(row, rule, states)
	}
	return row
}

// eachRow calls see with each row of so many machines, with numbers in least..most.
func eachRow(machines, least, most int, see func(row []int)) {
	row := filled(machines, least)
	for {
		see(slices.Clone(row))
		place := 0
		for place < machines && row[place] == most {
			row[place] = least
			place++
		}
		if place == machines {
			return
		}
		row[place]++
	}
}

// eachRule2 calls see with each rule of 2 states.
func eachRule2(see func(rule []int)) {
	eachRow(7, 0, 1, func(others []int) { see(append([]int{0}, others...)) })
}

func TestConstantsOfChapter1(t *testing.T) {
	if impl.MaxCells != 40 || impl.MaxStates != 4 || impl.MaxSteps != 60 {
		t.Error(impl.MaxCells, impl.MaxStates, impl.MaxSteps)
	}
}

// Promise 1: one machine is a row.
func TestOneMachineIsARow(t *testing.T) {
	for states := 1; states <= impl.MaxStates; states++ {
		for state := -2; state <= states+2; state++ {
			want := state >= 0 && state < states
			if got := impl.CellsOk([]int{state}, states); got != want {
				t.Errorf("CellsOk([%d], %d) = %v", state, states, got)
			}
		}
	}
}

func TestCellsOkLengths(t *testing.T) {
	for states := 1; states <= impl.MaxStates; states++ {
		for machines := 0; machines <= impl.MaxCells+3; machines++ {
			want := machines >= 1 && machines <= impl.MaxCells
			for _, row := range [][]int{filled(machines, 0), filled(machines, states-1)} {
				if got := impl.CellsOk(row, states); got != want {
					t.Errorf("CellsOk(%v, %d) = %v", row, states, got)
				}
			}
		}
		if impl.CellsOk(nil, states) || impl.CellsOk(filled(1000, 0), states) {
			t.Error("no row, or one of 1000 machines, is ok for", states)
		}
	}
}

func TestCellsOkOneStateOutOfRange(t *testing.T) {
	for states := 1; states <= impl.MaxStates; states++ {
		for _, machines := range []int{1, 2, 7, impl.MaxCells} {
			for place := range machines {
				for _, wrong := range beyond(0, states-1) {
					if impl.CellsOk(with(filled(machines, 0), place, wrong), states) {
						t.Errorf("%d at %d of %d machines is ok for %d states", wrong, place, machines, states)
					}
				}
			}
		}
	}
}

func TestCellsOkStatesOutOfRange(t *testing.T) {
	for _, states := range append(beyond(1, impl.MaxStates), -1) {
		for _, row := range [][]int{{0}, {1, 0}, {-1}, {}, filled(impl.MaxCells, 0)} {
			if impl.CellsOk(row, states) {
				t.Errorf("CellsOk(%v, %d)", row, states)
			}
		}
	}
}

// Promise 1: a row from the last one to the first one is one exactly if it was.
func TestTurnedRowsAreRows(t *testing.T) {
	for states := 1; states <= impl.MaxStates; states++ {
		for machines := 1; machines <= 4; machines++ {
			eachRow(machines, -1, states, func(row []int) {
				want := slices.Min(row) >= 0 && slices.Max(row) < states
				if impl.CellsOk(row, states) != want || impl.CellsOk(reversed(row), states) != want {
					t.Errorf("CellsOk of %v and %d states, or of the turned row, is not %v", row, states, want)
				}
			})
		}
	}
}

// Promise 2: rest is a rule.
func TestRestIsARule(t *testing.T) {
	for states := 1; states <= impl.MaxStates; states++ {
		if !impl.RuleOk(filled(states*states*states, 0), states) {
			t.Error("rest is no rule of", states)
		}
	}
}

func TestRulesThatDoNotLeaveRest(t *testing.T) {
	for states := 2; states <= impl.MaxStates; states++ {
		most := with(filled(states*states*states, states-1), 0, 0)
		if !impl.RuleOk(most, states) {
			t.Error("the greatest rule is not ok for", states)
		}
		for first := 1; first < states; first++ {
			if impl.RuleOk(with(most, 0, first), states) || impl.RuleOk(with(filled(len(most), 0), 0, first), states) {
				t.Errorf("%d states: rest becomes %d", states, first)
			}
		}
	}
}

func TestRuleOkOneStateOutOfRange(t *testing.T) {
	for states := 1; states <= impl.MaxStates; states++ {
		rest := filled(states*states*states, 0)
		for place := range rest {
			for _, wrong := range beyond(0, states-1) {
				if impl.RuleOk(with(rest, place, wrong), states) {
					t.Errorf("%d at %d is ok for %d states", wrong, place, states)
				}
			}
		}
	}
}

func TestRuleOkLengths(t *testing.T) {
	for states := 1; states <= impl.MaxStates; states++ {
		for length := range 130 {
			if got := impl.RuleOk(filled(length, 0), states); got != (length == states*states*states) {
				t.Errorf("a rule of %d for %d states: %v", length, states, got)
			}
		}
		if impl.RuleOk(nil, states) {
			t.Error("no rule is ok for", states)
		}
	}
}

func TestRuleOkStatesOutOfRange(t *testing.T) {
	// The cubes of 1<<22 and of 1<<32 wrap around to 0.
	for _, states := range append(beyond(1, impl.MaxStates), -1, -2, 1<<22, 1<<32) {
		lengths := []int{0, 1, 8, 64}
		if states == impl.MaxStates+1 {
			lengths = append(lengths, states*states*states)
		}
		for _, length := range lengths {
			if impl.RuleOk(filled(length, 0), states) {
				t.Errorf("a rule of %d for %d states", length, states)
			}
		}
	}
}

// Promise 2: turned rules are rules.
func TestTurnedRulesAreRules(t *testing.T) {
	draw := drawer()
	for states := 1; states <= impl.MaxStates; states++ {
		for range 100 {
			rule := drawRule(draw, states)
			if !impl.RuleOk(rule, states) || !impl.RuleOk(impl.TurnedRule(rule, states), states) {
				t.Fatalf("%v, or the turned one, is no rule of %d", rule, states)
			}
		}
	}
}

func TestStepOfByHand(t *testing.T) {
	alike := func(row, rule, want []int, states int) {
		t.Helper()
		wantRow(t, impl.StepOf(row, rule, states), want, "StepOf", row, rule, states)
	}
	alike([]int{1, 0, 1, 0}, goRight, []int{0, 1, 0, 1}, 2)
	alike([]int{0, 0, 0, 1}, goRight, []int{0, 0, 0, 0}, 2)
	alike([]int{1, 0, 0, 1, 1}, sumOfTwo, []int{0, 1, 1, 1, 1}, 2)
	alike([]int{0, 0, 0, 1}, rule110, []int{0, 0, 1, 1}, 2)
	alike([]int{1, 1, 1, 0}, rule110, []int{1, 0, 1, 0}, 2)
	// One machine has rest on both sides: the place of 0, 1, 0 is that of states.
	alike([]int{1}, []int{0, 0, 1, 0, 0, 0, 0, 0}, []int{1}, 2)
	alike([]int{1}, []int{0, 1, 0, 1, 1, 1, 1, 1}, []int{0}, 2)
	alike([]int{0}, []int{0}, []int{0}, 1)
	// Of 3 states, 1, 2, 0 is at 9 + 6, 0, 1, 2 at 5, and 2, 0, 0 at 18.
	three := filled(27, 0)
	three[15], three[5], three[18] = 2, 1, 2
	alike([]int{1, 2, 0}, three, []int{1, 2, 2}, 3)
}

func TestStepOfAllRulesOfTwoStates(t *testing.T) {
	eachRule2(func(rule []int) {
		for machines := 1; machines <= 5; machines++ {
			eachRow(machines, 0, 1, func(row []int) {
				wantRow(t, impl.StepOf(row, rule, 2), expectedStep(row, rule, 2), "StepOf", row, rule)
			})
		}
	})
}

func TestRowsAtRestStayAtRest(t *testing.T) {
	draw := drawer()
	for states := 1; states <= impl.MaxStates; states++ {
		for _, machines := range []int{1, 2, 3, impl.MaxCells} {
			rule, rest := drawRule(draw, states), filled(machines, 0)
			wantRow(t, impl.StepOf(rest, rule, states), rest, "StepOf", machines, rule)
			wantRow(t, impl.RunOf(rest, rule, states, impl.MaxSteps), rest, "RunOf", machines, rule)
		}
	}
}

// Promise 3: turned rows step by turned rules.
func TestTurnedRowsStepByTurnedRules(t *testing.T) {
	draw := drawer()
	for states := 1; states <= impl.MaxStates; states++ {
		for machines := 1; machines <= impl.MaxCells; machines++ {
			for range 5 {
				row, rule := drawRow(draw, states, machines), drawRule(draw, states)
				next := impl.StepOf(row, rule, states)
				wantRow(t, next, expectedStep(row, rule, states), "StepOf", row, rule, states)
				if len(next) != machines || !impl.CellsOk(next, states) {
					t.Errorf("StepOf(%v, %v, %d) = %v, which is no such row", row, rule, states, next)
				}
				turned := impl.StepOf(reversed(row), impl.TurnedRule(rule, states), states)
				wantRow(t, turned, reversed(next), "the turned StepOf", row, rule, states)
			}
		}
	}
}

// Promise 4: after one step more it is one step on.
func TestRunsGoOnStepByStep(t *testing.T) {
	draw := drawer()
	for states := 1; states <= impl.MaxStates; states++ {
		for _, machines := range []int{1, 2, 3, 11, impl.MaxCells} {
			row, rule := drawRow(draw, states, machines), drawRule(draw, states)
			want := row
			for steps := 0; steps <= impl.MaxSteps; steps++ {
				got := impl.RunOf(row, rule, states, steps)
				wantRow(t, got, want, "RunOf", row, rule, states, steps)
				if steps < impl.MaxSteps {
					wantRow(t, impl.RunOf(row, rule, states, steps+1), impl.StepOf(got, rule, states), "one step on", row, rule, steps)
				}
				want = expectedStep(want, rule, states)
			}
		}
	}
}

func TestRunOfByHand(t *testing.T) {
	row := with(filled(impl.MaxCells, 0), 0, 1)
	for steps := range impl.MaxCells {
		wantRow(t, impl.RunOf(row, goRight, 2, steps), with(filled(impl.MaxCells, 0), steps, 1), "RunOf", steps)
	}
	wantRow(t, impl.RunOf(row, goRight, 2, impl.MaxSteps), filled(impl.MaxCells, 0), "RunOf out of the row")
	wantRow(t, impl.RunOf([]int{0, 0, 0, 1, 0, 0, 0}, sumOfTwo, 2, 2), []int{0, 1, 0, 0, 0, 1, 0}, "RunOf the sum of two")
	wantRow(t, impl.RunOf([]int{3, 1, 2}, filled(64, 0), 4, 0), []int{3, 1, 2}, "RunOf no steps")
}

// Promise 4: nothing is faster than one place a step.
func TestNothingIsFasterThanOnePlaceAStep(t *testing.T) {
	draw := drawer()
	for states := 2; states <= impl.MaxStates; states++ {
		for _, machines := range []int{1, 2, 9, 30, impl.MaxCells} {
			for range 10 {
				row, rule := drawRow(draw, states, machines), drawRule(draw, states)
				last := machines - 1
				other := with(row, last, (row[last]+1)%states)
				for steps := 0; steps < machines; steps++ {
					alike := machines - 1 - steps
					got, want := impl.RunOf(other, rule, states, steps), impl.RunOf(row, rule, states, steps)
					if len(got) != machines || len(want) != machines {
						t.Fatalf("RunOf(%v, %v, %d, %d) has %d machines", row, rule, states, steps, len(want))
					}
					wantRow(t, got[:alike], want[:alike], "far from the last machine", row, rule, steps)
				}
			}
		}
	}
}

func TestWidenedOfByHand(t *testing.T) {
	wantRow(t, impl.WidenedOf([]int{1}, 2, 2), []int{0, 0, 1, 0, 0}, "WidenedOf")
	wantRow(t, impl.WidenedOf([]int{1, 3}, 4, 1), []int{0, 1, 3, 0}, "WidenedOf")
	wantRow(t, impl.WidenedOf([]int{2, 0, 1}, 3, 0), []int{2, 0, 1}, "WidenedOf by nothing")
	wantRow(t, impl.WidenedOf([]int{0}, 1, 1), []int{0, 0, 0}, "WidenedOf rest")
}

// Promise 5: a widened row has so many machines more on both sides, up to MaxCells together.
func TestWidenedRowsHaveRestAroundThem(t *testing.T) {
	draw := drawer()
	for states := 1; states <= impl.MaxStates; states++ {
		for machines := 1; machines <= impl.MaxCells; machines++ {
			row := drawRow(draw, states, machines)
			for by := 0; by <= impl.MaxCells+1; by++ {
				want := slices.Concat(filled(by, 0), row, filled(by, 0))
				if len(want) > impl.MaxCells {
					want = nil
				}
				wantRow(t, impl.WidenedOf(row, states, by), want, "WidenedOf", row, states, by)
			}
		}
	}
}

// Promise 5: rows with rest around them step alike.
func TestRowsWithRestAroundThemStepAlike(t *testing.T) {
	draw := drawer()
	for states := 1; states <= impl.MaxStates; states++ {
		for machines := 1; machines <= impl.MaxCells-2; machines++ {
			for by := 0; machines+2*by+2 <= impl.MaxCells; by++ {
				row, rule := drawRow(draw, states, machines), drawRule(draw, states)
				narrow := impl.RunOf(impl.WidenedOf(row, states, by), rule, states, by)
				wide := impl.RunOf(impl.WidenedOf(row, states, by+1), rule, states, by)
				if len(wide) != machines+2*by+2 {
					t.Fatalf("WidenedOf(%v, %d, %d) has %d machines", row, states, by+1, len(wide))
				}
				wantRow(t, wide[1:len(wide)-1], narrow, "in the middle", row, rule, states, by)
			}
		}
	}
}

func TestTurnedRuleByHand(t *testing.T) {
	wantRow(t, impl.TurnedRule(goRight, 2), []int{0, 1, 0, 1, 0, 1, 0, 1}, "TurnedRule")
	wantRow(t, impl.TurnedRule(rule110, 2), []int{0, 0, 1, 1, 1, 1, 1, 0}, "TurnedRule")
	wantRow(t, impl.TurnedRule(sumOfTwo, 2), sumOfTwo, "TurnedRule of one that is the same from the other side")
	wantRow(t, impl.TurnedRule([]int{0}, 1), []int{0}, "TurnedRule of one state")
	// Of 3 states, 1, 2, 0 is at 15, and 0, 2, 1 at 7.
	wantRow(t, impl.TurnedRule(with(filled(27, 0), 15, 2), 3), with(filled(27, 0), 7, 2), "TurnedRule of three states")
	// Of 4 states, 3, 1, 2 is at 54, and 2, 1, 3 at 39.
	wantRow(t, impl.TurnedRule(with(filled(64, 0), 54, 3), 4), with(filled(64, 0), 39, 3), "TurnedRule of four states")
}

// Promise 6: turned twice it is as before.
func TestTurnedTwiceItIsAsBefore(t *testing.T) {
	eachRule2(func(rule []int) {
		wantRow(t, impl.TurnedRule(impl.TurnedRule(rule, 2), 2), rule, "turned twice", rule)
	})
	draw := drawer()
	for states := 1; states <= impl.MaxStates; states++ {
		for range 50 {
			rule := drawRule(draw, states)
			turned := impl.TurnedRule(rule, states)
			wantRow(t, impl.TurnedRule(turned, states), rule, "turned twice", rule, states)
			for place := range turned {
				left, own, right := place/states/states, place/states%states, place%states
				if turned[place] != rule[(right*states+own)*states+left] {
					t.Fatalf("TurnedRule(%v, %d)[%d] = %d", rule, states, place, turned[place])
				}
			}
		}
	}
}

// wrongRows are rows that are not ok for 2 states, and wrongRules rules.
func wrongRows() [][]int {
	return [][]int{nil, {}, {2}, {-1}, {0, 1, 2}, {-1, 0, 0}, {1, 0, math.MinInt}, {0, math.MaxInt}, filled(impl.MaxCells+1, 0), filled(1000, 1)}
}

func wrongRules() [][]int {
	return [][]int{nil, {}, {0}, filled(7, 0), filled(9, 0), filled(27, 0), filled(8, 1), with(goRight, 0, 1), with(goRight, 0, -1),
		with(goRight, 3, 2), with(goRight, 7, -1), with(goRight, 7, math.MaxInt), with(goRight, 1, math.MinInt)}
}

func TestInvalidRowsOfChapter1(t *testing.T) {
	for _, row := range wrongRows() {
		wantNone(t, impl.StepOf(row, goRight, 2), "StepOf", row)
		wantNone(t, impl.RunOf(row, goRight, 2, 0), "RunOf", row, 0)
		wantNone(t, impl.RunOf(row, goRight, 2, 1), "RunOf", row, 1)
		wantNone(t, impl.RunOf(row, goRight, 2, impl.MaxSteps), "RunOf", row, impl.MaxSteps)
		wantNone(t, impl.WidenedOf(row, 2, 0), "WidenedOf", row, 0)
		wantNone(t, impl.WidenedOf(row, 2, 1), "WidenedOf", row, 1)
	}
}

func TestInvalidRulesOfChapter1(t *testing.T) {
	for _, rule := range wrongRules() {
		for _, row := range [][]int{{0}, {1, 0, 1}, filled(impl.MaxCells, 1)} {
			wantNone(t, impl.StepOf(row, rule, 2), "StepOf", row, rule)
			wantNone(t, impl.RunOf(row, rule, 2, 0), "RunOf", row, rule, 0)
			wantNone(t, impl.RunOf(row, rule, 2, 1), "RunOf", row, rule, 1)
			wantNone(t, impl.RunOf(row, rule, 2, impl.MaxSteps), "RunOf", row, rule, impl.MaxSteps)
		}
		wantNone(t, impl.TurnedRule(rule, 2), "TurnedRule", rule)
	}
}

func TestInvalidStatesOfChapter1(t *testing.T) {
	for _, states := range append(beyond(1, impl.MaxStates), -1, -2, 1<<22, 1<<32) {
		for _, length := range []int{0, 1, 8, 64, 125} {
			rule := filled(length, 0)
			for _, row := range [][]int{{0}, {0, 1}, {4}, {-1}} {
				wantNone(t, impl.StepOf(row, rule, states), "StepOf", row, length, states)
				wantNone(t, impl.RunOf(row, rule, states, 0), "RunOf", row, length, states, 0)
				wantNone(t, impl.RunOf(row, rule, states, 2), "RunOf", row, length, states, 2)
				wantNone(t, impl.WidenedOf(row, states, 0), "WidenedOf", row, states, 0)
				wantNone(t, impl.WidenedOf(row, states, 1), "WidenedOf", row, states, 1)
			}
			wantNone(t, impl.TurnedRule(rule, states), "TurnedRule", length, states)
		}
	}
}

func TestInvalidStepsAndWidths(t *testing.T) {
	for _, row := range [][]int{{0}, {1}, {1, 0, 1, 1}, filled(impl.MaxCells, 1)} {
		for _, steps := range beyond(0, impl.MaxSteps) {
			wantNone(t, impl.RunOf(row, goRight, 2, steps), "RunOf", row, steps)
		}
		for _, by := range beyond(0, impl.MaxCells) {
			wantNone(t, impl.WidenedOf(row, 2, by), "WidenedOf", row, by)
		}
		for by := -60; by < 0; by++ {
			wantNone(t, impl.WidenedOf(row, 2, by), "WidenedOf", row, by)
		}
	}
	wantNone(t, impl.WidenedOf([]int{1}, 2, 20), "WidenedOf to 41 machines")
	wantNone(t, impl.WidenedOf(filled(impl.MaxCells-1, 1), 2, 1), "WidenedOf to 41 machines")
	// Twice these widths, and the machines, wrap around to less than MaxCells.
	wantNone(t, impl.WidenedOf([]int{1}, 2, math.MaxInt), "WidenedOf", math.MaxInt)
	wantNone(t, impl.WidenedOf([]int{1}, 2, 1<<62), "WidenedOf", 1<<62)
}

func TestResultsOfChapter1AreApart(t *testing.T) {
	draw := drawer()
	for states := 1; states <= impl.MaxStates; states++ {
		for _, machines := range []int{1, 2, 17, impl.MaxCells} {
			row, rule := drawRow(draw, states, machines), drawRule(draw, states)
			wantApart(t, "StepOf", func(given [][]int) []int { return impl.StepOf(given[0], given[1], states) }, row, rule)
			for _, steps := range []int{0, 1, 2, impl.MaxSteps} {
				wantApart(t, "RunOf", func(given [][]int) []int { return impl.RunOf(given[0], given[1], states, steps) }, row, rule)
			}
			for by := 0; machines+2*by <= impl.MaxCells; by++ {
				wantApart(t, "WidenedOf", func(given [][]int) []int { return impl.WidenedOf(given[0], states, by) }, row)
			}
			wantApart(t, "TurnedRule", func(given [][]int) []int { return impl.TurnedRule(given[0], states) }, rule)
		}
	}
	// A row and a rule that do not change when they step or are turned.
	stay := []int{0, 0, 1, 1, 0, 0, 1, 1}
	wantApart(t, "StepOf", func(given [][]int) []int { return impl.StepOf(given[0], given[1], 2) }, []int{1, 0, 1}, stay)
	wantApart(t, "TurnedRule", func(given [][]int) []int { return impl.TurnedRule(given[0], 2) }, stay)
}

// The questions CellsOk and RuleOk write to nothing either.
func TestQuestionsOfChapter1WriteNothing(t *testing.T) {
	for _, list := range [][]int{{1, 0, 1}, goRight, {5, -1}} {
		wantApart(t, "CellsOk and RuleOk", func(given [][]int) []int {
			impl.CellsOk(given[0], 2)
			impl.RuleOk(given[0], 2)
			return []int{1}
		}, list)
	}
}

// A row may be its own rule: both are only read.
func TestOneSliceAsRowAndRule(t *testing.T) {
	both := slices.Clone(rule110)
	want := expectedRun(rule110, rule110, 2, 5)
	wantRow(t, impl.RunOf(both, both, 2, 5), want, "RunOf of a rule by itself")
	wantRow(t, both, rule110, "the rule behind that")
}
