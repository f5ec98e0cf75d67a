package tests

import (
	"math"
	"slices"
	"testing"

	"loop.example/rowmachines/impl"
)

// partWalked returns when and where the signal that goes a place each step, and has turned round, is at one place with the slower one first: both go step by step.
func partWalked(last, parts int) (int, int) {
	fast := walkerOf(impl.Signal{From: 0, Each: 1}, last)
	slow := walkerOf(impl.Signal{From: 0, Each: 2*parts - 1}, last)
	turned := false
	for time := 0; ; time++ {
		turned = turned || fast.place == last
		if turned && fast.place == slow.place {
			return time, fast.place
		}
		fast.step(last)
		slow.step(last)
	}
}

func wantPart(t *testing.T, last, parts, time, place int, ok bool) {
	t.Helper()
	if gotTime, gotPlace, gotOk := impl.PartAt(last, parts); gotTime != time || gotPlace != place || gotOk != ok {
		t.Errorf("PartAt(%d, %d) = %d, %d, %v, want %d, %d, %v", last, parts, gotTime, gotPlace, gotOk, time, place, ok)
	}
}

func wantMiddle(t *testing.T, last, time, place int, ok bool) {
	t.Helper()
	if gotTime, gotPlace, gotOk := impl.MiddleAt(last); gotTime != time || gotPlace != place || gotOk != ok {
		t.Errorf("MiddleAt(%d) = %d, %d, %v, want %d, %d, %v", last, gotTime, gotPlace, gotOk, time, place, ok)
	}
}

// eachPart calls see with each last place and number of parts for which a part is found.
func eachPart(see func(last, parts int)) {
	for last := 1; last <= impl.MaxCells; last++ {
		for parts := 2; parts <= impl.MaxPart; parts++ {
			see(last, parts)
		}
	}
}

func TestConstantsOfChapter3(t *testing.T) {
	if impl.MaxPart != 5 {
		t.Error(impl.MaxPart)
	}
}

// Promise 12: parts are found by slower signals.
func TestPartsAreFoundBySlowerSignals(t *testing.T) {
	eachPart(func(last, parts int) {
		place := last / parts
		time := (2*parts-1)*place + 2*(last%parts)
		wantPart(t, last, parts, time, place, true)
		wantBothThere(t, last, parts, time, place)
	})
}

// wantBothThere fails unless both signals are at a place after so many steps, and after none before since the fast one turned round.
func wantBothThere(t *testing.T, last, parts, time, place int) {
	t.Helper()
	fast, slow := impl.Signal{From: 0, Each: 1}, impl.Signal{From: 0, Each: 2*parts - 1}
	if impl.PlaceAt(fast, last, time) != place || impl.PlaceAt(slow, last, time) != place {
		t.Errorf("PartAt(%d, %d) tells %d, %d, where not both are", last, parts, time, place)
	}
	for before := last; before < time; before++ {
		if impl.PlaceAt(fast, last, before) == impl.PlaceAt(slow, last, before) {
			t.Errorf("PartAt(%d, %d) tells %d, but they meet after %d", last, parts, time, before)
		}
	}
}

func TestPartsAreFoundByWalking(t *testing.T) {
	eachPart(func(last, parts int) {
		time, place := partWalked(last, parts)
		wantPart(t, last, parts, time, place, true)
	})
}

func TestPartsByHand(t *testing.T) {
	cases := []struct{ last, parts, time, place int }{
		// All parts come out even.
		{2, 2, 3, 1}, {4, 2, 6, 2}, {9, 3, 15, 3}, {3, 3, 5, 1}, {8, 4, 14, 2}, {10, 5, 18, 2}, {5, 5, 9, 1}, {40, 2, 60, 20}, {40, 4, 70, 10}, {40, 5, 72, 8},
		// They do not, with each number of places left.
		{5, 2, 8, 2}, {10, 3, 17, 3}, {11, 3, 19, 3}, {40, 3, 67, 13},
		{9, 4, 16, 2}, {10, 4, 18, 2}, {11, 4, 20, 2},
		{11, 5, 20, 2}, {12, 5, 22, 2}, {13, 5, 24, 2}, {14, 5, 26, 2},
		// The row has fewer places than parts: the fast one comes back to 0 before the slow one goes.
		{1, 2, 2, 0}, {1, 3, 2, 0}, {1, 5, 2, 0}, {2, 3, 4, 0}, {2, 5, 4, 0}, {3, 4, 6, 0}, {4, 5, 8, 0},
	}
	for _, c := range cases {
		wantPart(t, c.last, c.parts, c.time, c.place, true)
	}
}

func TestPartsOfNone(t *testing.T) {
	for _, last := range append(beyond(1, impl.MaxCells), -1) {
		for parts := 0; parts <= impl.MaxPart+1; parts++ {
			wantPart(t, last, parts, -1, -1, false)
		}
		for _, parts := range beyond(2, impl.MaxPart) {
			wantPart(t, last, parts, -1, -1, false)
		}
	}
	for last := 1; last <= impl.MaxCells; last++ {
		for _, parts := range append(beyond(2, impl.MaxPart), 0, -1) {
			wantPart(t, last, parts, -1, -1, false)
		}
	}
}

// Promise 13: the middle is found after three halves.
func TestTheMiddleIsFoundAfterThreeHalves(t *testing.T) {
	for last := 1; last <= impl.MaxCells; last++ {
		place := last / 2
		time := 3 * place
		if last%2 == 1 {
			time += 2
		}
		wantMiddle(t, last, time, place, true)
		time, place = partWalked(last, 2)
		wantMiddle(t, last, time, place, true)
		wantPart(t, last, 2, time, place, true)
	}
}

func TestMiddlesByHand(t *testing.T) {
	cases := []struct {
		last, time, place int
		middles           []int
	}{
		{1, 2, 0, []int{0, 1}},
		{2, 3, 1, []int{1}},
		{3, 5, 1, []int{1, 2}},
		{4, 6, 2, []int{2}},
		{5, 8, 2, []int{2, 3}},
		{10, 15, 5, []int{5}},
		{39, 59, 19, []int{19, 20}},
		{40, 60, 20, []int{20}},
	}
	for _, c := range cases {
		wantMiddle(t, c.last, c.time, c.place, true)
		wantRow(t, impl.MiddlesOf(c.last), c.middles, "MiddlesOf", c.last)
	}
}

// Promise 14: middles are as far from both ends.
func TestMiddlesAreAsFarFromBothEnds(t *testing.T) {
	for last := 1; last <= impl.MaxCells; last++ {
		middles := impl.MiddlesOf(last)
		if len(middles) != 1+last%2 {
			t.Fatalf("MiddlesOf(%d) = %v", last, middles)
		}
		if first := middles[0]; first != last-middles[len(middles)-1] {
			t.Errorf("MiddlesOf(%d) = %v, not as far from both ends", last, middles)
		}
		if last%2 == 1 && middles[1] != middles[0]+1 {
			t.Errorf("MiddlesOf(%d) = %v, not beside each other", last, middles)
		}
		if _, place, _ := impl.MiddleAt(last); place != middles[0] {
			t.Errorf("MiddlesOf(%d) = %v, but MiddleAt tells %d", last, middles, place)
		}
	}
}

func TestMiddlesOfNone(t *testing.T) {
	for _, last := range append(beyond(1, impl.MaxCells), -1, -2) {
		wantMiddle(t, last, -1, -1, false)
		wantNone(t, impl.MiddlesOf(last), "MiddlesOf", last)
	}
}

func TestMiddlesShareNoMemory(t *testing.T) {
	for _, last := range []int{1, 2, 5, 39, 40} {
		wantApart(t, "MiddlesOf", func([][]int) []int { return impl.MiddlesOf(last) })
	}
	one, other := impl.MiddlesOf(4), impl.MiddlesOf(5)
	want := slices.Clone(other)
	overwrite(one, math.MinInt)
	wantRow(t, other, want, "MiddlesOf another last place after a result was written to")
}

// Promise 15: a place has had the signal when it comes back.
func TestAPlaceHasHadTheSignalWhenItComesBack(t *testing.T) {
	fast := impl.Signal{From: 0, Each: 1}
	for last := 1; last <= impl.MaxCells; last++ {
		way := walked(fast, last)
		for place := 0; place <= last; place++ {
			// It comes first on its way there, and then on its way back, or just once at the last place.
			want := last + slices.Index(way[last:], place)
			got := impl.HeardAt(last, place)
			if got != want {
				t.Errorf("HeardAt(%d, %d) = %d, want %d", last, place, got, want)
			}
			if there := impl.PlaceAt(fast, last, got); there != place {
				t.Errorf("HeardAt(%d, %d) = %d, when it is at %d", last, place, got, there)
			}
		}
		if got, want := impl.HeardAt(last, 0), impl.RoundOf(fast, last); got != want {
			t.Errorf("HeardAt(%d, 0) = %d, but a round has %d steps", last, got, want)
		}
		if got := impl.HeardAt(last, last); got != last {
			t.Errorf("HeardAt(%d, %d) = %d", last, last, got)
		}
	}
}

func TestHeardByHand(t *testing.T) {
	cases := []struct{ last, place, want int }{
		{1, 0, 2}, {1, 1, 1}, {4, 0, 8}, {4, 1, 7}, {4, 3, 5}, {4, 4, 4}, {5, 2, 8}, {40, 0, 80}, {40, 1, 79}, {40, 40, 40},
	}
	for _, c := range cases {
		if got := impl.HeardAt(c.last, c.place); got != c.want {
			t.Errorf("HeardAt(%d, %d) = %d, want %d", c.last, c.place, got, c.want)
		}
	}
}

func TestHeardOfNone(t *testing.T) {
	wantNotHeard := func(last, place int) {
		t.Helper()
		if got := impl.HeardAt(last, place); got != -1 {
			t.Errorf("HeardAt(%d, %d) = %d", last, place, got)
		}
	}
	for _, last := range append(beyond(1, impl.MaxCells), -1) {
		for _, place := range []int{0, 1, -1, last, impl.MaxCells} {
			wantNotHeard(last, place)
		}
	}
	for last := 1; last <= impl.MaxCells; last++ {
		for _, place := range beyond(0, last) {
			wantNotHeard(last, place)
		}
	}
}
