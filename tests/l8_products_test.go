package tests

import (
	"math"
	"math/rand"
	"slices"
	"testing"

	"loop.example/rowmachines/impl"
)

// maxTap and maxFed are the greatest numbers of a machine and of what comes in, and maxAt that at which a value is asked.
const (
	maxTap = 9
	maxFed = 99
	maxAt  = 3
)

// negated returns the numbers with the other signs.
func negated(numbers []int) []int {
	out := make([]int, len(numbers))
	for place, number := range numbers {
		out[place] = -number
	}
	return out
}

// drawSigned returns so many numbers from -most to most.
func drawSigned(draw *rand.Rand, most, count int) []int {
	out := make([]int, count)
	for place := range out {
		out[place] = draw.Intn(2*most+1) - most
	}
	return out
}

// bySigns returns so many times the same number, with the other sign at every second place.
func bySigns(count, number int) []int {
	out := filled(count, number)
	for place := 1; place < count; place += 2 {
		out[place] = -number
	}
	return out
}

// signedRows are so many numbers from -most to most: all the same, the greatest or the least one alone at each place or missing there, with noughts first, last, at both ends and between, by turns with both signs, and in order.
func signedRows(count, most int) [][]int {
	rows := [][]int{ascending(count, 1), reversed(ascending(count, 1)), ascending(count, -count/2)}
	for _, number := range []int{0, 1, -1, most, -most} {
		rows = append(rows, filled(count, number))
	}
	for _, number := range []int{1, most, -most} {
		rows = append(rows, bySigns(count, number))
		all := filled(count, number)
		for place := range count {
			rows = append(rows, with(filled(count, 0), place, number), with(all, place, 0))
		}
		for noughts := 2; noughts < count; noughts++ {
			rows = append(rows, slices.Concat(filled(noughts, 0), all[noughts:]), slices.Concat(all[noughts:], filled(noughts, 0)))
		}
		if count >= 3 {
			rows = append(rows, slices.Concat([]int{0}, all[2:], []int{0}), slices.Concat([]int{number}, filled(count-2, 0), []int{-number}))
		}
	}
	return rows
}

// someTaps are rows of so many machines: those of signedRows, and drawn ones with great and with small numbers.
func someTaps(machines int) [][]int {
	draw := drawer()
	rows := signedRows(machines, maxTap)
	for range 5 {
		rows = append(rows, drawSigned(draw, maxTap, machines), drawSigned(draw, 2, machines), drawSigned(draw, 1, machines))
	}
	return rows
}

// someIns are so many numbers that come in: those of signedRows, and drawn ones with great and with small numbers.
func someIns(count int) [][]int {
	draw := drawer()
	rows := signedRows(count, maxFed)
	for range 5 {
		rows = append(rows, drawSigned(draw, maxFed, count), drawSigned(draw, 2, count))
	}
	return rows
}

// eachTaps calls see with rows that multiply: all of one machine and of two, and some of each number of machines.
func eachTaps(see func(taps []int)) {
	for machines := 1; machines <= 2; machines++ {
		eachRow(machines, -maxTap, maxTap, see)
	}
	for machines := 1; machines <= impl.MaxTaps; machines++ {
		for _, taps := range someTaps(machines) {
			see(taps)
		}
	}
}

// eachIn calls see with numbers that come in: none, each one alone, and some of each number of them.
func eachIn(see func(in []int)) {
	see(nil)
	eachRow(1, -maxFed, maxFed, see)
	for count := 0; count <= impl.MaxIn; count++ {
		for _, in := range someIns(count) {
			see(in)
		}
	}
}

// eachFed calls see with rows and with numbers that come in there, of each number of machines and each number of them.
func eachFed(see func(taps, in []int)) {
	for machines := 1; machines <= impl.MaxTaps; machines++ {
		for _, taps := range someTaps(machines) {
			see(taps, nil)
			for count := 0; count <= impl.MaxIn; count++ {
				for _, in := range someIns(count) {
					see(taps, in)
				}
			}
		}
	}
}

// eachPair calls see with two rows, of each two numbers of machines.
func eachPair(see func(a, b []int)) {
	for machines := 1; machines <= impl.MaxTaps; machines++ {
		for others := 1; others <= impl.MaxTaps; others++ {
			for _, a := range someTaps(machines) {
				for _, b := range someTaps(others) {
					see(a, b)
				}
			}
		}
	}
}

// eachBehind calls see with two rows and with what comes in, such that all that goes out of one may come in at the other one, and such that it may not.
func eachBehind(see func(first, second, in []int)) {
	draw := drawer()
	for machines := 1; machines <= impl.MaxTaps; machines++ {
		for others := 1; others <= impl.MaxTaps; others++ {
			for count := 0; count <= impl.MaxIn; count++ {
				in := drawSigned(draw, 3, count)
				see(drawSigned(draw, maxTap, machines), drawSigned(draw, maxTap, others), in)
				see(drawSigned(draw, 2, machines), drawSigned(draw, 2, others), in)
				see(drawSigned(draw, 1, machines), drawSigned(draw, maxTap, others), drawSigned(draw, maxFed, count))
				see(drawSigned(draw, maxTap, machines), drawSigned(draw, 1, others), drawSigned(draw, maxFed, count))
				see(with(filled(machines, 0), draw.Intn(machines), 1), with(filled(others, 0), draw.Intn(others), -1), drawSigned(draw, maxFed, count))
				see(filled(machines, 1), bySigns(others, 1), filled(count, maxFed/8))
				see(filled(machines, maxTap), filled(others, -maxTap), with(filled(impl.MaxIn, 0), count%impl.MaxIn, 1))
			}
		}
	}
	for machines := 1; machines <= impl.MaxTaps; machines++ {
		for _, taps := range someTaps(machines) {
			see(taps, taps, nil)
			see(taps, taps, []int{1, 0, -1})
			see(taps, reversed(taps), filled(impl.MaxIn, 1))
			see(taps, []int{1, -1}, filled(impl.MaxIn, 1))
			see([]int{1, -1}, taps, filled(impl.MaxIn, maxFed))
		}
	}
}

// eachNoTaps calls see with rows that are none, one thing wrong at a time.
func eachNoTaps(see func(taps []int)) {
	see(nil)
	for _, machines := range []int{0, impl.MaxTaps + 1, impl.MaxTaps + 2, impl.MaxIn, impl.MaxIn + 1, 1000} {
		see(filled(machines, 0))
		see(filled(machines, 1))
	}
	for machines := 1; machines <= impl.MaxTaps; machines++ {
		for place := range machines {
			for _, wrong := range append(beyond(-maxTap, maxTap), -maxTap-2, maxTap+2, maxFed) {
				see(with(filled(machines, 0), place, wrong))
				see(with(filled(machines, -maxTap), place, wrong))
			}
		}
	}
}

// eachNoIn calls see with numbers that may not come in, one thing wrong at a time.
func eachNoIn(see func(in []int)) {
	for _, count := range []int{impl.MaxIn + 1, impl.MaxIn + 2, 2 * impl.MaxIn, 1000} {
		see(filled(count, 0))
		see(filled(count, 1))
	}
	for count := 1; count <= impl.MaxIn; count++ {
		for place := range count {
			for _, wrong := range append(beyond(-maxFed, maxFed), -maxFed-2, maxFed+2) {
				see(with(filled(count, 0), place, wrong))
				see(with(filled(count, -maxFed), place, wrong))
			}
		}
	}
}

// fedMachineByMachine is what goes out as the document tells it: all that is held is reckoned from what was held before.
func fedMachineByMachine(taps, in []int) []int {
	out := []int{}
	held := filled(len(taps), 0)
	for _, number := range in {
		fromRight := append(slices.Clone(held[1:]), 0)
		for place, own := range taps {
			held[place] = fromRight[place] + own*number
		}
		out = append(out, held[0])
	}
	return out
}

// sumOfProducts is what goes out at a place: each machine's number times what came in so many places before as the machine has places.
func sumOfProducts(taps, in []int, at int) int {
	sum := 0
	for place, own := range taps {
		if at-place >= 0 {
			sum += own * in[at-place]
		}
	}
	return sum
}

// multiplied is the product of two polynomials, number by number.
func multiplied(a, b []int) []int {
	out := filled(len(a)+len(b)-1, 0)
	for i, one := range a {
		for j, other := range b {
			out[i+j] += one * other
		}
	}
	return out
}

// valueByPowers is the value of a polynomial, power by power.
func valueByPowers(numbers []int, x int) int {
	value, power := 0, 1
	for _, number := range numbers {
		value += number * power
		power *= x
	}
	return value
}

// mayComeIn tells whether all numbers are such as may come in.
func mayComeIn(numbers []int) bool {
	for _, number := range numbers {
		if number < -99 || number > 99 {
			return false
		}
	}
	return true
}

func wantTaps(t *testing.T, taps []int, want bool) {
	t.Helper()
	if got := impl.TapsOk(taps); got != want {
		t.Errorf("TapsOk(%v) = %v", taps, got)
	}
}

func wantIn(t *testing.T, in []int, want bool) {
	t.Helper()
	if got := impl.InOk(in); got != want {
		t.Errorf("InOk(%v) = %v", in, got)
	}
}

func wantValue(t *testing.T, taps []int, x, want int) {
	t.Helper()
	if got, ok := impl.ValueAt(taps, x); got != want || !ok {
		t.Errorf("ValueAt(%v, %d) = %d, %v, want %d", taps, x, got, ok, want)
	}
}

func wantNoValue(t *testing.T, taps []int, x int) {
	t.Helper()
	if got, ok := impl.ValueAt(taps, x); got != 0 || ok {
		t.Errorf("ValueAt(%v, %d) = %d, %v, want 0, false", taps, x, got, ok)
	}
}

func TestConstantsOfChapter8(t *testing.T) {
	if impl.MaxTaps != 8 || impl.MaxIn != 16 {
		t.Error(impl.MaxTaps, impl.MaxIn)
	}
}

// Promise 39: one number is a row that multiplies.
func TestOneNumberIsARowThatMultiplies(t *testing.T) {
	for number := -300; number <= 300; number++ {
		wantTaps(t, []int{number}, number >= -9 && number <= 9)
	}
}

// Promise 39: a row with the other signs is one exactly if it was.
func TestTapsWithTheOtherSigns(t *testing.T) {
	eachTaps(func(taps []int) {
		wantTaps(t, taps, true)
		wantTaps(t, negated(taps), true)
	})
	eachNoTaps(func(taps []int) {
		wantTaps(t, taps, false)
		wantTaps(t, negated(taps), false)
	})
}

func TestTapsOfFewAndManyMachines(t *testing.T) {
	wantTaps(t, nil, false)
	for machines := 0; machines <= impl.MaxIn+2; machines++ {
		for _, number := range []int{0, 1, maxTap, -maxTap} {
			wantTaps(t, filled(machines, number), machines >= 1 && machines <= 8)
		}
	}
}

// Promise 40: nothing may come in, and each number alone.
func TestNothingMayComeIn(t *testing.T) {
	wantIn(t, nil, true)
	wantIn(t, []int{}, true)
	for number := -400; number <= 400; number++ {
		wantIn(t, []int{number}, number >= -99 && number <= 99)
	}
}

// Promise 40: numbers without the last one may come in.
func TestNumbersWithoutTheLastOneMayComeIn(t *testing.T) {
	eachIn(func(in []int) {
		for count := len(in); count >= 0; count-- {
			wantIn(t, in[:count], true)
		}
	})
}

func TestNumbersThatMayNotComeIn(t *testing.T) {
	for count := 0; count <= 2*impl.MaxIn; count++ {
		for _, number := range []int{0, 1, maxFed, -maxFed} {
			wantIn(t, filled(count, number), count <= 16)
		}
	}
	eachNoIn(func(in []int) { wantIn(t, in, false) })
}

// Promise 41: what goes out are sums of products.
func TestWhatGoesOutAreSumsOfProducts(t *testing.T) {
	eachFed(func(taps, in []int) {
		out := impl.FedOf(taps, in)
		if len(out) != len(in) {
			t.Fatalf("FedOf(%v, %v) = %v", taps, in, out)
		}
		for at, got := range out {
			if want := sumOfProducts(taps, in, at); got != want {
				t.Errorf("FedOf(%v, %v) = %v, want %d at %d", taps, in, out, want, at)
			}
		}
	})
}

// Promise 41: what goes out does not depend on what comes in later.
func TestWhatGoesOutDoesNotDependOnWhatComesInLater(t *testing.T) {
	for machines := 1; machines <= impl.MaxTaps; machines++ {
		for _, taps := range someTaps(machines) {
			for _, in := range someIns(impl.MaxIn) {
				out := impl.FedOf(taps, in)
				for count := range in {
					wantRow(t, impl.FedOf(taps, in[:count]), out[:count], "FedOf", taps, in[:count])
					others := slices.Concat(in[:count], negated(in[count:]))
					wantRow(t, impl.FedOf(taps, others)[:count], out[:count], "as far as it is the same, FedOf", taps, others)
				}
			}
		}
	}
}

func TestFedMachineByMachine(t *testing.T) {
	eachFed(func(taps, in []int) {
		wantRow(t, impl.FedOf(taps, in), fedMachineByMachine(taps, in), "FedOf", taps, in)
	})
}

func TestFedByHand(t *testing.T) {
	cases := []struct{ taps, in, want []int }{
		// One machine holds nothing of before.
		{[]int{1}, []int{5, 0, -7}, []int{5, 0, -7}},
		{[]int{-3}, []int{5, 0, -7}, []int{-15, 0, 21}},
		{[]int{0}, []int{5, 99, -99}, []int{0, 0, 0}},
		{[]int{9}, []int{99, -99}, []int{891, -891}},
		{[]int{-9}, []int{99, -99}, []int{-891, 891}},
		// Two machines and more, with one number at each place.
		{[]int{1, 2}, []int{3, 0, 1}, []int{3, 6, 1}},
		{[]int{0, 1}, []int{4, 5, 6}, []int{0, 4, 5}},
		{[]int{0, 0, 1}, []int{4, 5, 6}, []int{0, 0, 4}},
		{[]int{0, 0, 0, 1}, []int{4, 5, 6}, []int{0, 0, 0}},
		{[]int{1, 2, 3}, []int{1, 0, 0, 0, 0}, []int{1, 2, 3, 0, 0}},
		{[]int{1, 2, 3}, []int{0, 0, 1, 0, 0}, []int{0, 0, 1, 2, 3}},
		{[]int{1, 2, 3}, []int{0, 0, 0, 0, 1}, []int{0, 0, 0, 0, 1}},
		{[]int{1, 2, 3}, []int{1}, []int{1}},
		// Noughts that come in first, last and between others.
		{[]int{2, -1}, []int{0, 0, 3, 4}, []int{0, 0, 6, 5}},
		{[]int{2, -1}, []int{3, 4, 0, 0}, []int{6, 5, -4, 0}},
		{[]int{2, -1}, []int{3, 0, 0, 4}, []int{6, -3, 0, 8}},
		{[]int{2, 0, -1}, []int{3, 0, 4, 0, 5}, []int{6, 0, 5, 0, 6}},
		{[]int{1, 1, 1}, []int{0, 0, 0, 0}, []int{0, 0, 0, 0}},
		// Rows with noughts at either end.
		{[]int{0, 1, 2, 0}, []int{1, 10, 0, 0, 0}, []int{0, 1, 12, 20, 0}},
		{[]int{1, 1, 0}, []int{1, 2, 3, 4}, []int{1, 3, 5, 7}},
		{[]int{0, 1, 1}, []int{1, 2, 3, 4}, []int{0, 1, 3, 5}},
		// The first differences and the sums of the last ones.
		{[]int{1, -1}, []int{1, 4, 9, 16, 25}, []int{1, 3, 5, 7, 9}},
		{[]int{1, 1, 1}, []int{1, 2, 3, 4, 5}, []int{1, 3, 6, 9, 12}},
		{[]int{-1, -2}, []int{-3, 4, -5}, []int{3, 2, -3}},
	}
	for _, c := range cases {
		wantRow(t, impl.FedOf(c.taps, c.in), c.want, "FedOf", c.taps, c.in)
	}
}

func TestFedWithTheGreatestNumbers(t *testing.T) {
	for machines := 1; machines <= impl.MaxTaps; machines++ {
		for count := 0; count <= impl.MaxIn; count++ {
			for _, signs := range [][2]int{{1, 1}, {1, -1}, {-1, 1}, {-1, -1}} {
				want := []int{}
				for at := range count {
					want = append(want, 891*signs[0]*signs[1]*min(at+1, machines))
				}
				taps, in := filled(machines, 9*signs[0]), filled(count, 99*signs[1])
				wantRow(t, impl.FedOf(taps, in), want, "FedOf", taps, in)
			}
		}
	}
}

func TestNothingGoesOutOfNothing(t *testing.T) {
	eachTaps(func(taps []int) {
		wantNone(t, impl.FedOf(taps, nil), "FedOf nothing by", taps)
		wantNone(t, impl.FedOf(taps, []int{}), "FedOf nothing by", taps)
		wantNone(t, impl.BehindOf(taps, reversed(taps), nil), "BehindOf nothing by", taps)
		wantNone(t, impl.BehindOf(taps, reversed(taps), []int{}), "BehindOf nothing by", taps)
	})
}

// Promise 42: it does not matter which one is in the row.
func TestItDoesNotMatterWhichOneIsInTheRow(t *testing.T) {
	eachPair(func(a, b []int) {
		product := impl.ProductOf(a, b)
		if len(product) != len(a)+len(b)-1 {
			t.Fatalf("ProductOf(%v, %v) = %v", a, b, product)
		}
		wantRow(t, impl.ProductOf(b, a), product, "ProductOf exchanged", a, b)
		valueA, okA := impl.ValueAt(a, 2)
		valueB, okB := impl.ValueAt(b, 2)
		if got := valueByPowers(product, 2); got != valueA*valueB || !okA || !okB {
			t.Errorf("ProductOf(%v, %v) = %v, at 2 %d, want %d times %d", a, b, product, got, valueA, valueB)
		}
		if impl.TapsOk(product) {
			wantValue(t, product, 2, valueA*valueB)
		}
	})
}

func TestProductsNumberByNumber(t *testing.T) {
	eachPair(func(a, b []int) {
		wantRow(t, impl.ProductOf(a, b), multiplied(a, b), "ProductOf", a, b)
	})
}

// What goes out of the first row for the second one, and as many 0 behind it as the first one has machines, less 1.
func TestProductsGoOutOfARow(t *testing.T) {
	eachPair(func(a, b []int) {
		in := slices.Concat(b, filled(len(a)-1, 0))
		wantRow(t, impl.ProductOf(a, b), impl.FedOf(a, in), "ProductOf", a, b)
	})
}

func TestProductsByHand(t *testing.T) {
	cases := []struct{ a, b, want []int }{
		{[]int{3}, []int{-4}, []int{-12}},
		{[]int{0}, []int{7}, []int{0}},
		{[]int{9}, []int{9}, []int{81}},
		{[]int{1}, []int{1, 2, 3}, []int{1, 2, 3}},
		{[]int{0}, []int{1, 2, 3}, []int{0, 0, 0}},
		{[]int{-2}, []int{1, 0, 3}, []int{-2, 0, -6}},
		{[]int{1, 2}, []int{3, 1}, []int{3, 7, 2}},
		{[]int{1, 1}, []int{1, -1}, []int{1, 0, -1}},
		{[]int{1, 1}, []int{1, 2, 1}, []int{1, 3, 3, 1}},
		{[]int{1, -1}, []int{1, 1, 1, 1}, []int{1, 0, 0, 0, -1}},
		// Noughts at either end of a row are noughts at that end of the product.
		{[]int{0, 1}, []int{0, 0, 2}, []int{0, 0, 0, 2}},
		{[]int{1, 0}, []int{2, 0, 0}, []int{2, 0, 0, 0}},
		{[]int{0, 1, 0}, []int{0, 2, 3, 0}, []int{0, 0, 2, 3, 0, 0}},
		{[]int{0, 0}, []int{0, 0, 0}, []int{0, 0, 0, 0}},
		{filled(8, 1), filled(8, 1), []int{1, 2, 3, 4, 5, 6, 7, 8, 7, 6, 5, 4, 3, 2, 1}},
		{filled(8, 9), filled(8, -9), []int{-81, -162, -243, -324, -405, -486, -567, -648, -567, -486, -405, -324, -243, -162, -81}},
	}
	for _, c := range cases {
		wantRow(t, impl.ProductOf(c.a, c.b), c.want, "ProductOf", c.a, c.b)
		wantRow(t, impl.ProductOf(c.b, c.a), c.want, "ProductOf", c.b, c.a)
	}
}

// Promise 43: the other row first, the same goes out, as far as both are told.
func TestTheOtherRowFirstTheSameGoesOut(t *testing.T) {
	told := 0
	eachBehind(func(first, second, in []int) {
		if !mayComeIn(fedMachineByMachine(first, in)) || !mayComeIn(fedMachineByMachine(second, in)) {
			return
		}
		told++
		got := impl.BehindOf(first, second, in)
		if len(got) != len(in) {
			t.Fatalf("BehindOf(%v, %v, %v) = %v", first, second, in, got)
		}
		wantRow(t, impl.BehindOf(second, first, in), got, "BehindOf, the other row first", first, second, in)
	})
	if told < 1000 {
		t.Errorf("just %d were told both ways", told)
	}
}

// Promise 43: it is what goes out of the product of both rows, if that is a row.
func TestRowsOneBehindTheOtherAreTheirProduct(t *testing.T) {
	rows := 0
	eachBehind(func(first, second, in []int) {
		if !mayComeIn(fedMachineByMachine(first, in)) {
			return
		}
		got := impl.BehindOf(first, second, in)
		wantRow(t, got, fedMachineByMachine(multiplied(first, second), in), "BehindOf", first, second, in)
		if product := impl.ProductOf(first, second); impl.TapsOk(product) {
			rows++
			wantRow(t, got, impl.FedOf(product, in), "BehindOf", first, second, in)
		}
	})
	if rows < 1000 {
		t.Errorf("just %d products were rows", rows)
	}
}

// Nothing is told if one number that goes out of the first row may not come in at the second one.
func TestWhatTheSecondRowTakes(t *testing.T) {
	refused := 0
	eachBehind(func(first, second, in []int) {
		between := fedMachineByMachine(first, in)
		if !mayComeIn(between) {
			refused++
			wantNone(t, impl.BehindOf(first, second, in), "BehindOf", first, second, in)
			return
		}
		wantRow(t, impl.BehindOf(first, second, in), fedMachineByMachine(second, between), "BehindOf", first, second, in)
	})
	if refused < 1000 {
		t.Errorf("just %d were refused", refused)
	}
}

func TestBehindByHand(t *testing.T) {
	cases := []struct{ first, second, in, want []int }{
		{[]int{1}, []int{1}, []int{7, 0, -8}, []int{7, 0, -8}},
		{[]int{2}, []int{-3}, []int{7, 0, -8}, []int{-42, 0, 48}},
		{[]int{0}, []int{9}, []int{99, -99}, []int{0, 0}},
		{[]int{1, 1}, []int{1, -1}, []int{1, 0, 0}, []int{1, 0, -1}},
		{[]int{1, -1}, []int{1, -1}, []int{1, 4, 9, 16, 25}, []int{1, 2, 2, 2, 2}},
		{[]int{0, 1}, []int{0, 0, 1}, []int{5, 6, 7, 8, 9}, []int{0, 0, 0, 5, 6}},
		{[]int{1, 0}, []int{2, 0}, []int{5, 0, 6}, []int{10, 0, 12}},
		// What goes out of the first one is as great, or as small, as may come in; what goes out of the second one may be more.
		{[]int{9}, []int{9}, []int{11, -11}, []int{891, -891}},
		{[]int{9}, []int{9}, []int{12}, nil},
		{[]int{9}, []int{9}, []int{-12}, nil},
		{[]int{1, 1}, []int{1}, []int{50, 49}, []int{50, 99}},
		{[]int{1, 1}, []int{1}, []int{-50, -49}, []int{-50, -99}},
		{[]int{1, 1}, []int{1}, []int{50, 50}, nil},
		{[]int{1, 1}, []int{1}, []int{-50, -50}, nil},
		// One alone may not come in, the first one, one in the middle or the last one, even if the second row does not use it.
		{[]int{2}, []int{1}, []int{50, 1, 1}, nil},
		{[]int{2}, []int{1}, []int{1, -50, 1}, nil},
		{[]int{2}, []int{1}, []int{1, 1, 50}, nil},
		{[]int{2}, []int{0}, []int{1, 50, 1}, nil},
		{[]int{2}, []int{0, 1}, []int{1, 1, -50}, nil},
		{[]int{2}, []int{0, 0, 0, 1}, []int{50}, nil},
		// Only one way round all that goes out of the first row may come in at the second one.
		{[]int{9}, []int{1}, []int{99}, nil},
		{[]int{1}, []int{9}, []int{99}, []int{891}},
		{[]int{1, 1}, []int{1, -1}, []int{99, 99}, nil},
		{[]int{1, -1}, []int{1, 1}, []int{99, 99}, []int{99, 99}},
	}
	for _, c := range cases {
		wantRow(t, impl.BehindOf(c.first, c.second, c.in), c.want, "BehindOf", c.first, c.second, c.in)
	}
}

// Promise 44: values at one are sums.
func TestValuesAtOneAreSums(t *testing.T) {
	eachTaps(func(taps []int) {
		sum, byTurns := 0, 0
		for place, number := range taps {
			sum += number
			if place%2 == 0 {
				byTurns += number
			} else {
				byTurns -= number
			}
		}
		wantValue(t, taps, 1, sum)
		wantValue(t, taps, 0, taps[0])
		wantValue(t, taps, -1, byTurns)
	})
}

func TestValuesPowerByPower(t *testing.T) {
	eachTaps(func(taps []int) {
		for x := -maxAt; x <= maxAt; x++ {
			wantValue(t, taps, x, valueByPowers(taps, x))
		}
	})
}

func TestValuesByHand(t *testing.T) {
	cases := []struct {
		taps []int
		want [7]int
	}{
		{[]int{5}, [7]int{5, 5, 5, 5, 5, 5, 5}},
		{[]int{0}, [7]int{}},
		{[]int{0, 0, 0}, [7]int{}},
		{[]int{0, 1}, [7]int{-3, -2, -1, 0, 1, 2, 3}},
		{[]int{0, 0, -1}, [7]int{-9, -4, -1, 0, -1, -4, -9}},
		{[]int{4, 0, 0}, [7]int{4, 4, 4, 4, 4, 4, 4}},
		{[]int{1, 2, 3}, [7]int{22, 9, 2, 1, 6, 17, 34}},
		{[]int{-1, 0, 2, -9}, [7]int{260, 79, 10, -1, -8, -65, -226}},
		{[]int{0, 0, 0, 0, 0, 0, 0, 9}, [7]int{-19683, -1152, -9, 0, 9, 1152, 19683}},
		{filled(8, 9), [7]int{-14760, -765, 0, 9, 72, 2295, 29520}},
		{filled(8, -9), [7]int{14760, 765, 0, -9, -72, -2295, -29520}},
	}
	for _, c := range cases {
		for i, want := range c.want {
			wantValue(t, c.taps, i-3, want)
		}
	}
}

func TestProductsOfNone(t *testing.T) {
	ok := [][]int{{0}, {1}, {1, 2}, filled(impl.MaxTaps, maxTap)}
	eachNoTaps(func(taps []int) {
		for _, in := range [][]int{nil, {}, {0}, {1, 0, -1}, filled(impl.MaxIn, maxFed)} {
			wantNone(t, impl.FedOf(taps, in), "FedOf", taps, in)
			wantNone(t, impl.BehindOf(taps, []int{1}, in), "BehindOf", taps, 1, in)
			wantNone(t, impl.BehindOf([]int{1}, taps, in), "BehindOf", 1, taps, in)
			wantNone(t, impl.BehindOf(taps, taps, in), "BehindOf", taps, taps, in)
		}
		for _, other := range ok {
			wantNone(t, impl.ProductOf(taps, other), "ProductOf", taps, other)
			wantNone(t, impl.ProductOf(other, taps), "ProductOf", other, taps)
		}
		wantNone(t, impl.ProductOf(taps, taps), "ProductOf", taps, taps)
		for _, x := range append(beyond(-maxAt, maxAt), -3, -1, 0, 1, 2, 3) {
			wantNoValue(t, taps, x)
		}
	})
}

func TestFeedingWhatMayNotComeIn(t *testing.T) {
	eachNoIn(func(in []int) {
		for _, taps := range [][]int{nil, {}, {0}, {1}, {1, -1}, {maxTap + 1}, filled(impl.MaxTaps, maxTap), filled(impl.MaxTaps+1, 0)} {
			wantNone(t, impl.FedOf(taps, in), "FedOf", taps, in)
			for _, other := range [][]int{nil, {0}, {1, 1}, {maxTap + 1}} {
				wantNone(t, impl.BehindOf(taps, other, in), "BehindOf", taps, other, in)
			}
		}
	})
}

func TestValuesAtNoNumber(t *testing.T) {
	eachTaps(func(taps []int) {
		for _, x := range append(beyond(-maxAt, maxAt), -maxAt-2, maxAt+2) {
			wantNoValue(t, taps, x)
		}
	})
}

func TestProductsShareNoMemory(t *testing.T) {
	for machines := 1; machines <= impl.MaxTaps; machines++ {
		for _, taps := range someTaps(machines) {
			for _, count := range []int{1, 2, impl.MaxTaps, impl.MaxIn} {
				in := bySigns(count, 1)
				wantApart(t, "FedOf", func(given [][]int) []int { return impl.FedOf(given[0], given[1]) }, taps, in)
				wantApart(t, "BehindOf", func(given [][]int) []int { return impl.BehindOf(given[0], given[1], given[2]) }, taps, []int{1, -1}, in)
				wantApart(t, "BehindOf", func(given [][]int) []int { return impl.BehindOf(given[0], given[1], given[2]) }, []int{1}, taps, in)
			}
			for _, other := range [][]int{{1}, {0, 1}, reversed(taps), filled(impl.MaxTaps, 1)} {
				wantApart(t, "ProductOf", func(given [][]int) []int { return impl.ProductOf(given[0], given[1]) }, taps, other)
				wantApart(t, "ProductOf", func(given [][]int) []int { return impl.ProductOf(given[0], given[1]) }, other, taps)
			}
			// What comes from one function is not what comes from another one.
			wantListsApart(t, "products", func() [][]int {
				return [][]int{impl.FedOf(taps, []int{1}), impl.FedOf([]int{1}, taps), impl.ProductOf(taps, []int{1}), impl.ProductOf([]int{1}, taps), impl.BehindOf([]int{1}, []int{1}, taps)}
			})
		}
	}
}

// One slice may be both rows and what comes in; and what comes in may lie in the memory of the row.
func TestProductsOfOneMemory(t *testing.T) {
	for machines := 1; machines <= impl.MaxTaps; machines++ {
		for _, taps := range someTaps(machines) {
			both := slices.Clone(taps)
			wantRow(t, impl.FedOf(both, both), fedMachineByMachine(taps, taps), "FedOf a row by itself", taps)
			wantRow(t, impl.ProductOf(both, both), multiplied(taps, taps), "ProductOf a row and itself", taps)
			if between := fedMachineByMachine(taps, taps); mayComeIn(between) {
				wantRow(t, impl.BehindOf(both, both, both), fedMachineByMachine(taps, between), "BehindOf a row and itself", taps)
			} else {
				wantNone(t, impl.BehindOf(both, both, both), "BehindOf a row and itself", taps)
			}
			for from := range machines {
				wantRow(t, impl.FedOf(both[:machines-from], both[from:]), fedMachineByMachine(taps[:machines-from], taps[from:]), "FedOf, from one place on,", taps, from)
				wantRow(t, impl.ProductOf(both[:machines-from], both[from:]), multiplied(taps[:machines-from], taps[from:]), "ProductOf, from one place on,", taps, from)
			}
			wantRow(t, both, taps, "the row behind that")
		}
	}
}

// What is asked of numbers, such as are ok or not, changes nothing of them, nor what is behind them in their memory.
func TestProductsChangeNoNumbers(t *testing.T) {
	wantUnchanged := func(numbers []int) {
		given := append(slices.Clone(numbers), 1, 0, 7)
		before := slices.Clone(given)
		asked := given[:len(numbers)]
		impl.TapsOk(asked)
		impl.InOk(asked)
		impl.FedOf(asked, []int{1, 2})
		impl.FedOf([]int{1, 2}, asked)
		impl.ProductOf(asked, []int{1, 2})
		impl.ProductOf([]int{1, 2}, asked)
		impl.BehindOf(asked, []int{1, 2}, []int{3, 4})
		impl.BehindOf([]int{1, 2}, asked, []int{3, 4})
		impl.BehindOf([]int{1, 2}, []int{3, 4}, asked)
		impl.ValueAt(asked, 2)
		impl.ValueAt(asked, math.MinInt)
		wantRow(t, given, before, "numbers that were asked about", numbers)
	}
	eachTaps(wantUnchanged)
	eachIn(wantUnchanged)
	eachNoTaps(wantUnchanged)
	eachNoIn(wantUnchanged)
}
