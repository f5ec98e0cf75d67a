package tests

import (
	"math"
	"slices"
	"testing"

	"loop.example/rowmachines/impl"
)

// walker goes the way of a signal one step after the other, as the document tells it.
type walker struct {
	place, way, slow, waited int
}

func walkerOf(s impl.Signal, last int) walker {
	w := walker{place: s.From, way: 1, slow: s.Each}
	if s.Each < 0 {
		w.way, w.slow = -1, -s.Each
	}
	w.turnAtWalls(last)
	return w
}

func (w *walker) turnAtWalls(last int) {
	switch w.place {
	case 0:
		w.way = 1
	case last:
		w.way = -1
	}
}

func (w *walker) step(last int) {
	w.waited++
	if w.waited == w.slow {
		w.waited = 0
		w.place += w.way
		w.turnAtWalls(last)
	}
}

// walked returns the places of a signal after 0, 1, 2 .. MaxTime steps.
func walked(s impl.Signal, last int) []int {
	places := []int{}
	for w := walkerOf(s, last); len(places) <= impl.MaxTime; w.step(last) {
		places = append(places, w.place)
	}
	return places
}

// roundWalked returns after how many steps a signal is at its first place with the same direction again, first.
func roundWalked(s impl.Signal, last int) int {
	begin := walkerOf(s, last)
	now := begin
	for steps := 1; ; steps++ {
		now.step(last)
		if now == begin {
			return steps
		}
	}
}

// meetWalked returns when and where two signals whose places are known after each step are at the same place first.
func meetWalked(a, b []int) (int, int, bool) {
	for time := range a {
		if a[time] == b[time] {
			return time, a[time], true
		}
	}
	return -1, -1, false
}

// eachSignal calls see with each signal for a last place.
func eachSignal(last int, see func(s impl.Signal)) {
	for from := 0; from <= last; from++ {
		for each := 1; each <= impl.MaxSlow; each++ {
			see(impl.Signal{From: from, Each: each})
			see(impl.Signal{From: from, Each: -each})
		}
	}
}

// eachBadSignal calls see with signals and last places that are not ok together, one thing wrong at a time.
func eachBadSignal(see func(s impl.Signal, last int)) {
	for _, last := range []int{1, 2, 7, impl.MaxCells} {
		for _, from := range beyond(0, last) {
			see(impl.Signal{From: from, Each: 1}, last)
			see(impl.Signal{From: from, Each: -impl.MaxSlow}, last)
		}
		for _, each := range append(beyond(-impl.MaxSlow, impl.MaxSlow), 0) {
			see(impl.Signal{From: 0, Each: each}, last)
			see(impl.Signal{From: last, Each: each}, last)
		}
	}
	for _, last := range beyond(1, impl.MaxCells) {
		see(impl.Signal{From: 0, Each: 1}, last)
		see(impl.Signal{From: 1, Each: -1}, last)
		see(impl.Signal{From: last, Each: 1}, last)
	}
	see(impl.Signal{}, 4)
	see(impl.Signal{}, 0)
}

// across returns the signal seen from the other side.
func across(s impl.Signal, last int) impl.Signal {
	return impl.Signal{From: last - s.From, Each: -s.Each}
}

func wantMeeting(t *testing.T, a, b impl.Signal, last, time, place int, ok bool) {
	t.Helper()
	if gotTime, gotPlace, gotOk := impl.MeetAt(a, b, last); gotTime != time || gotPlace != place || gotOk != ok {
		t.Errorf("MeetAt(%v, %v, %d) = %d, %d, %v, want %d, %d, %v", a, b, last, gotTime, gotPlace, gotOk, time, place, ok)
	}
}

func TestConstantsOfChapter2(t *testing.T) {
	if impl.MaxSlow != 9 || impl.MaxTime != 2000 {
		t.Error(impl.MaxSlow, impl.MaxTime)
	}
}

// Promise 7: signals go both ways.
func TestSignalsGoBothWays(t *testing.T) {
	for last := -2; last <= impl.MaxCells+2; last++ {
		for from := -2; from <= last+2; from++ {
			for each := -impl.MaxSlow - 2; each <= impl.MaxSlow+2; each++ {
				s := impl.Signal{From: from, Each: each}
				want := last >= 1 && last <= 40 && from >= 0 && from <= last && each >= -9 && each <= 9 && each != 0
				if got := impl.SignalOk(s, last); got != want {
					t.Errorf("SignalOk(%v, %d) = %v", s, last, got)
				}
				if got := impl.SignalOk(impl.Signal{From: from, Each: -each}, last); got != want {
					t.Errorf("with the other direction: SignalOk(%v, %d) is %v", s, last, got)
				}
				if got := impl.SignalOk(across(s, last), last); got != want {
					t.Errorf("from the other side: SignalOk(%v, %d) is %v", s, last, got)
				}
			}
		}
	}
}

func TestSignalsThatAreNone(t *testing.T) {
	eachBadSignal(func(s impl.Signal, last int) {
		if impl.SignalOk(s, last) {
			t.Errorf("SignalOk(%v, %d) = true", s, last)
		}
	})
}

// Promise 8: signals go one place at a time.
func TestSignalsGoOnePlaceAtATime(t *testing.T) {
	for last := 1; last <= impl.MaxCells; last++ {
		eachSignal(last, func(s impl.Signal) {
			wantSteady(t, s, last)
		})
	}
}

// wantSteady fails unless a signal goes the way that is walked, one place at a time, and so from the other side.
func wantSteady(t *testing.T, s impl.Signal, last int) {
	t.Helper()
	if got := impl.PlaceAt(s, last, 0); got != s.From {
		t.Errorf("PlaceAt(%v, %d, 0) = %d", s, last, got)
	}
	before := -1
	for time, want := range walked(s, last) {
		got := impl.PlaceAt(s, last, time)
		if got != want {
			t.Fatalf("PlaceAt(%v, %d, %d) = %d, want %d", s, last, time, got, want)
		}
		if other := impl.PlaceAt(across(s, last), last, time); other != last-got {
			t.Fatalf("PlaceAt(%v, %d, %d) = %d, but %d from the other side", s, last, time, got, other)
		}
		moved := max(got-before, before-got)
		always := s.Each == 1 || s.Each == -1
		if time > 0 && (moved > 1 || always && moved == 0) {
			t.Fatalf("PlaceAt(%v, %d, %d) = %d after %d", s, last, time, got, before)
		}
		before = got
	}
}

func TestPlacesByHand(t *testing.T) {
	cases := []struct {
		s      impl.Signal
		last   int
		places []int
	}{
		{impl.Signal{From: 0, Each: 1}, 4, []int{0, 1, 2, 3, 4, 3, 2, 1, 0, 1}},
		{impl.Signal{From: 2, Each: -1}, 4, []int{2, 1, 0, 1, 2, 3, 4, 3, 2, 1}},
		{impl.Signal{From: 1, Each: 3}, 2, []int{1, 1, 1, 2, 2, 2, 1, 1, 1, 0, 0, 0, 1}},
		{impl.Signal{From: 1, Each: -2}, 2, []int{1, 1, 0, 0, 1, 1, 2, 2, 1, 1, 0}},
		// At a wall both directions lead away from it.
		{impl.Signal{From: 0, Each: -1}, 3, []int{0, 1, 2, 3, 2, 1, 0, 1}},
		{impl.Signal{From: 3, Each: 1}, 3, []int{3, 2, 1, 0, 1, 2, 3, 2}},
		{impl.Signal{From: 3, Each: -2}, 3, []int{3, 3, 2, 2, 1, 1, 0, 0, 1, 1}},
		{impl.Signal{From: 0, Each: -2}, 3, []int{0, 0, 1, 1, 2, 2, 3, 3, 2}},
		// The walls are beside each other.
		{impl.Signal{From: 0, Each: 1}, 1, []int{0, 1, 0, 1, 0}},
		{impl.Signal{From: 0, Each: -1}, 1, []int{0, 1, 0, 1, 0}},
		{impl.Signal{From: 1, Each: 1}, 1, []int{1, 0, 1, 0, 1}},
		{impl.Signal{From: 1, Each: -3}, 1, []int{1, 1, 1, 0, 0, 0, 1}},
	}
	for _, c := range cases {
		places := []int{}
		for time := range c.places {
			places = append(places, impl.PlaceAt(c.s, c.last, time))
		}
		wantRow(t, places, c.places, "places", c.s, c.last)
	}
	// 2000 is 25 rounds of 80 steps, and 2 rounds of 720 steps with 560 steps, which are 62 places: 22 back from the last one.
	if got := impl.PlaceAt(impl.Signal{From: 0, Each: 1}, 40, 2000); got != 0 {
		t.Errorf("the fastest one is at %d after 2000 steps", got)
	}
	if got := impl.PlaceAt(impl.Signal{From: 0, Each: 9}, 40, 2000); got != 18 {
		t.Errorf("the slowest one is at %d after 2000 steps", got)
	}
}

func TestPlacesOfNone(t *testing.T) {
	eachBadSignal(func(s impl.Signal, last int) {
		for _, time := range []int{0, 1, 5, impl.MaxTime, -1} {
			if got := impl.PlaceAt(s, last, time); got != -1 {
				t.Errorf("PlaceAt(%v, %d, %d) = %d", s, last, time, got)
			}
		}
	})
	for _, time := range beyond(0, impl.MaxTime) {
		for _, last := range []int{1, 4, impl.MaxCells} {
			for _, each := range []int{1, -1, impl.MaxSlow, -impl.MaxSlow} {
				if got := impl.PlaceAt(impl.Signal{From: 1, Each: each}, last, time); got != -1 {
					t.Errorf("PlaceAt({1 %d}, %d, %d) = %d", each, last, time, got)
				}
			}
		}
	}
}

// Promise 9: after a round all is as before.
func TestAfterARoundAllIsAsBefore(t *testing.T) {
	for last := 1; last <= impl.MaxCells; last++ {
		eachSignal(last, func(s impl.Signal) {
			round := impl.RoundOf(s, last)
			if want := roundWalked(s, last); round != want {
				t.Fatalf("RoundOf(%v, %d) = %d, want %d", s, last, round, want)
			}
			if got := impl.PlaceAt(s, last, round); got != s.From {
				t.Errorf("%v is at %d after a round up to %d", s, got, last)
			}
			for more := 0; more <= 50 && round+more <= impl.MaxTime; more++ {
				if got, want := impl.PlaceAt(s, last, round+more), impl.PlaceAt(s, last, more); got != want {
					t.Errorf("%v is at %d, not at %d, %d steps after a round up to %d", s, got, want, more, last)
				}
			}
		})
	}
}

func TestRoundsByHand(t *testing.T) {
	cases := []struct{ from, each, last, want int }{
		{0, 1, 1, 2}, {1, -1, 1, 2}, {0, -9, 1, 18}, {0, 1, 4, 8}, {0, 3, 4, 24}, {2, -3, 4, 24},
		{3, 5, 7, 70}, {40, 1, 40, 80}, {0, 9, 40, 720}, {17, -9, 40, 720},
	}
	for _, c := range cases {
		if got := impl.RoundOf(impl.Signal{From: c.from, Each: c.each}, c.last); got != c.want {
			t.Errorf("RoundOf({%d %d}, %d) = %d, want %d", c.from, c.each, c.last, got, c.want)
		}
	}
}

func TestRoundsOfNone(t *testing.T) {
	eachBadSignal(func(s impl.Signal, last int) {
		if got := impl.RoundOf(s, last); got != -1 {
			t.Errorf("RoundOf(%v, %d) = %d", s, last, got)
		}
	})
}

// Promise 10: where they meet both are.
func TestWhereTheyMeetBothAre(t *testing.T) {
	for last := 1; last <= 6; last++ {
		signals := []impl.Signal{}
		ways := [][]int{}
		eachSignal(last, func(s impl.Signal) {
			signals = append(signals, s)
			ways = append(ways, walked(s, last))
		})
		for i, a := range signals {
			for k, b := range signals {
				time, place, ok := meetWalked(ways[i], ways[k])
				wantMeeting(t, a, b, last, time, place, ok)
			}
			wantMeeting(t, a, a, last, 0, a.From, true)
		}
	}
}

func TestMeetingsOfDrawnSignals(t *testing.T) {
	draw := drawer()
	for range 5000 {
		last := 1 + draw.Intn(impl.MaxCells)
		drawn := func() impl.Signal {
			return impl.Signal{From: draw.Intn(last + 1), Each: (1 + draw.Intn(impl.MaxSlow)) * (1 - 2*draw.Intn(2))}
		}
		a, b := drawn(), drawn()
		time, place, ok := meetWalked(walked(a, last), walked(b, last))
		wantMeeting(t, a, b, last, time, place, ok)
		wantMeeting(t, b, a, last, time, place, ok)
		wantMeeting(t, a, a, last, 0, a.From, true)
		if !ok {
			continue
		}
		if impl.PlaceAt(a, last, time) != place || impl.PlaceAt(b, last, time) != place {
			t.Errorf("MeetAt(%v, %v, %d) tells %d, %d, where not both are", a, b, last, time, place)
		}
		for before := range time {
			if impl.PlaceAt(a, last, before) == impl.PlaceAt(b, last, before) {
				t.Errorf("MeetAt(%v, %v, %d) tells %d, but they meet after %d", a, b, last, time, before)
			}
		}
	}
}

func TestMeetingsByHand(t *testing.T) {
	signal := func(from, each int) impl.Signal { return impl.Signal{From: from, Each: each} }
	cases := []struct {
		a, b              impl.Signal
		last, time, place int
		ok                bool
	}{
		// At once: at the same place with any directions, at a wall too.
		{signal(2, 1), signal(2, -9), 4, 0, 2, true},
		{signal(0, 1), signal(0, -1), 4, 0, 0, true},
		{signal(1, 3), signal(1, 5), 1, 0, 1, true},
		// Towards each other.
		{signal(0, 1), signal(4, -1), 4, 2, 2, true},
		{signal(0, 1), signal(4, 1), 4, 2, 2, true},
		{signal(1, 2), signal(4, -2), 5, 2, 2, false},
		// The faster one comes up with the slower one ahead of it; or they pass by first, between 5 and 6 steps.
		{signal(0, 1), signal(2, 3), 9, 2, 2, true},
		{signal(0, 1), signal(3, 3), 9, 4, 4, true},
		{signal(1, 1), signal(0, 3), 4, 10, 3, true},
		// They pass by for ever: an odd number of places between them, and the same steps for a place.
		{signal(0, 1), signal(1, 1), 4, -1, -1, false},
		{signal(0, 1), signal(3, -1), 3, -1, -1, false},
		{signal(0, 9), signal(39, -9), 40, -1, -1, false},
		// Walls beside each other: they exchange their places, or the faster one comes.
		{signal(0, 1), signal(1, 1), 1, -1, -1, false},
		{signal(0, 1), signal(1, 2), 1, 1, 1, true},
		{signal(0, 2), signal(1, 3), 1, 2, 1, true},
		// Late: 282 and 330 places on, both on the way back. Too late: after 2022 steps, and after 3198.
		{signal(18, 7), signal(30, -6), 39, 1980, 12, true},
		{signal(24, -6), signal(25, 7), 39, -1, -1, false},
		{signal(0, -7), signal(1, 6), 39, -1, -1, false},
	}
	for _, c := range cases {
		time, place := c.time, c.place
		if !c.ok {
			time, place = -1, -1
		}
		wantMeeting(t, c.a, c.b, c.last, time, place, c.ok)
		wantMeeting(t, c.b, c.a, c.last, time, place, c.ok)
	}
}

func TestMeetingsOfNone(t *testing.T) {
	eachBadSignal(func(s impl.Signal, last int) {
		good := impl.Signal{From: 1, Each: 1}
		wantMeeting(t, s, s, last, -1, -1, false)
		wantMeeting(t, s, good, last, -1, -1, false)
		wantMeeting(t, good, s, last, -1, -1, false)
	})
}

// Promise 11: each place is come to twice in a round.
func TestEachPlaceIsComeToTwiceInARound(t *testing.T) {
	for last := 1; last <= impl.MaxCells; last++ {
		eachSignal(last, func(s impl.Signal) {
			way := walked(s, last)[:roundWalked(s, last)]
			times := make([][]int, last+1)
			for time, place := range way {
				times[place] = append(times[place], time)
			}
			for place := range times {
				got := impl.TimesAt(s, last, place)
				wantRow(t, got, times[place], "TimesAt", s, last, place)
				wantTwice(t, s, last, place, got)
			}
		})
	}
}

// wantTwice fails unless there are as many times as the promise tells, and the signal is at the place after each of them.
func wantTwice(t *testing.T, s impl.Signal, last, place int, times []int) {
	t.Helper()
	many := 2 * max(s.Each, -s.Each)
	if place == 0 || place == last {
		many /= 2
	}
	if len(times) != many {
		t.Errorf("TimesAt(%v, %d, %d) has %d times, want %d", s, last, place, len(times), many)
	}
	for _, time := range times {
		if impl.PlaceAt(s, last, time) != place {
			t.Errorf("TimesAt(%v, %d, %d) has %d", s, last, place, time)
		}
	}
}

func TestTimesByHand(t *testing.T) {
	cases := []struct {
		from, each, last, place int
		want                    []int
	}{
		{0, 1, 4, 1, []int{1, 7}},
		{0, 1, 4, 0, []int{0}},
		{0, 1, 4, 4, []int{4}},
		{2, -1, 4, 2, []int{0, 4}},
		{0, 3, 4, 1, []int{3, 4, 5, 21, 22, 23}},
		{1, -2, 2, 1, []int{0, 1, 4, 5}},
		{1, -2, 2, 2, []int{6, 7}},
		{0, 1, 1, 1, []int{1}},
		{1, 3, 1, 1, []int{0, 1, 2}},
		{1, 3, 1, 0, []int{3, 4, 5}},
		{40, 9, 40, 0, []int{360, 361, 362, 363, 364, 365, 366, 367, 368}},
	}
	for _, c := range cases {
		s := impl.Signal{From: c.from, Each: c.each}
		wantRow(t, impl.TimesAt(s, c.last, c.place), c.want, "TimesAt", s, c.last, c.place)
	}
}

func TestTimesOfNone(t *testing.T) {
	eachBadSignal(func(s impl.Signal, last int) {
		for _, place := range []int{0, 1, last, s.From} {
			wantNone(t, impl.TimesAt(s, last, place), "TimesAt", s, last, place)
		}
	})
	for _, last := range []int{1, 4, impl.MaxCells} {
		for _, place := range beyond(0, last) {
			s := impl.Signal{From: 1, Each: -2}
			wantNone(t, impl.TimesAt(s, last, place), "TimesAt", s, last, place)
		}
	}
}

func TestTimesShareNoMemory(t *testing.T) {
	for _, s := range []impl.Signal{{From: 0, Each: 1}, {From: 3, Each: -9}} {
		for _, place := range []int{0, 3, 4} {
			wantApart(t, "TimesAt", func([][]int) []int { return impl.TimesAt(s, 4, place) })
		}
	}
	one := impl.TimesAt(impl.Signal{From: 2, Each: 3}, 5, 2)
	other := impl.TimesAt(impl.Signal{From: 2, Each: 3}, 5, 3)
	want := slices.Clone(other)
	overwrite(one, math.MinInt)
	wantRow(t, other, want, "TimesAt of another place after a result was written to")
}
