// Package impl is about rows and rings of small machines that step all at once.
package impl

import (
	"iter"
	"slices"
)

// MaxCells is the maximum number of machines of a row, MaxStates that of states of a machine, and MaxSteps that of steps.
const (
	MaxCells  = 40
	MaxStates = 4
	MaxSteps  = 60
)

// CellsOk reports whether a row has 1..MaxCells machines, each in a state in 0..states less 1, for states in 1..MaxStates.
func CellsOk(row []int, states int) bool {
	return statesOk(states) && len(row) >= 1 && len(row) <= MaxCells && allWithin(row, 0, states-1)
}

// RuleOk reports whether a rule, for states in 1..MaxStates, tells a state for each three states, of the left neighbour, of the machine itself and of the right neighbour: at the place of the first one times the square of states, the second one times states and the third one, added; and 0 for three times 0.
func RuleOk(rule []int, states int) bool {
	// The bound of states comes first: the cube of a large number wraps around, perhaps to the length of the rule.
	return statesOk(states) && len(rule) == states*states*states && allWithin(rule, 0, states-1) && rule[0] == 0
}

// StepOf returns a row (CellsOk) after one step by a rule (RuleOk): each machine as the rule tells for its left neighbour, itself and its right neighbour, with 0 beyond both ends; nil for others.
func StepOf(row []int, rule []int, states int) []int {
	return RunOf(row, rule, states, 1)
}

// RunOf returns a row (CellsOk) after so many steps, in 0..MaxSteps, by a rule (RuleOk, StepOf); nil for others.
func RunOf(row []int, rule []int, states int, steps int) []int {
	if !CellsOk(row, states) || !RuleOk(rule, states) || steps < 0 || steps > MaxSteps {
		return nil
	}
	var last []int
	table := ruleTable{rule, states}
	for now := range table.rowsOf(row, steps) {
		last = now
	}
	return last
}

// WidenedOf returns a row (CellsOk) with so many machines in the state 0, from 0 on, put on both sides of it; nil if these are more than MaxCells together, and for others.
func WidenedOf(row []int, states int, by int) []int {
	// The room is halved, since twice a large number of machines wraps around.
	if !CellsOk(row, states) || by < 0 || by > (MaxCells-len(row))/2 {
		return nil
	}
	wide := make([]int, len(row)+2*by)
	copy(wide[by:], row)
	return wide
}

// TurnedRule returns a rule (RuleOk) with left and right exchanged; nil for others.
func TurnedRule(rule []int, states int) []int {
	if !RuleOk(rule, states) {
		return nil
	}
	table := ruleTable{rule, states}
	turned := make([]int, 0, len(rule))
	for left := range states {
		for own := range states {
			for right := range states {
				turned = append(turned, table.tells(right, own, left))
			}
		}
	}
	return turned
}

// ruleTable is a rule (RuleOk) with the number of states that its places are reckoned by.
type ruleTable struct {
	rule   []int
	states int
}

// tells returns what one machine becomes.
func (t ruleTable) tells(left, own, right int) int {
	return t.rule[(left*t.states+own)*t.states+right]
}

// nextOf returns a row (CellsOk) after one step, in new memory: no machine may see what another one has become already.
func (t ruleTable) nextOf(row []int) []int {
	next := make([]int, len(row))
	for place, own := range row {
		next[place] = t.tells(stateAt(row, place-1), own, stateAt(row, place+1))
	}
	return next
}

// rowsOf yields a row (CellsOk) after 0, 1, 2 .. steps in turn, each one in memory of its own.
func (t ruleTable) rowsOf(row []int, steps int) iter.Seq[[]int] {
	return func(yield func([]int) bool) {
		now := slices.Clone(row)
		for range steps {
			if !yield(now) {
				return
			}
			now = t.nextOf(now)
		}
		yield(now)
	}
}

// stateAt returns the state at a place, which may be one beyond an end, where all is at rest.
func stateAt(row []int, place int) int {
	if place < 0 || place >= len(row) {
		return 0
	}
	return row[place]
}

func statesOk(states int) bool {
	return states >= 1 && states <= MaxStates
}

// allWithin reports whether all numbers are in least..most.
func allWithin(numbers []int, least, most int) bool {
	for _, n := range numbers {
		if n < least || n > most {
			return false
		}
	}
	return true
}
