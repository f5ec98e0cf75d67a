package tests

import (
	"fmt"
	"math/rand"
	"regexp"
	"slices"
	"strconv"
	"strings"
	"testing"

	"loop.example/rowmachines/impl"
)

func desk(now []int, past ...[]int) impl.Desk {
	return impl.Desk{Now: now, Past: past}
}

func deed(kind, n int) impl.Deed {
	return impl.Deed{Kind: kind, N: n}
}

// bitsIn returns a ring of the digits of a text.
func bitsIn(text string) []int {
	row := []int{}
	for _, digit := range text {
		row = append(row, int(digit-'0'))
	}
	return row
}

// bitsIns returns a ring of each text.
func bitsIns(texts ...string) [][]int {
	var rows [][]int
	for _, text := range texts {
		rows = append(rows, bitsIn(text))
	}
	return rows
}

func digitsIn(row []int) string {
	text := ""
	for _, bit := range row {
		text += strconv.Itoa(bit)
	}
	return text
}

// fewBits returns all rings of up to so many machines.
func fewBits(most int) [][]int {
	var rings [][]int
	for machines := 1; machines <= most; machines++ {
		eachRow(machines, 0, 1, func(row []int) { rings = append(rings, row) })
	}
	return rings
}

// eachFewDesk calls see with desks of few machines: all rings of up to 4 machines, without rings of before, with each one of up to 3 machines, and with each two of up to 2 machines.
func eachFewDesk(see func(d impl.Desk)) {
	pasts := [][][]int{nil}
	for _, only := range fewBits(3) {
		pasts = append(pasts, [][]int{only})
	}
	for _, first := range fewBits(2) {
		for _, second := range fewBits(2) {
			pasts = append(pasts, [][]int{first, second})
		}
	}
	for _, now := range fewBits(4) {
		for _, past := range pasts {
			see(desk(now, past...))
		}
	}
}

// drawDesk returns a desk with a drawn ring and drawn ones of before, which have as many machines or drawn numbers of them.
func drawDesk(draw *rand.Rand, machines, before int) impl.Desk {
	d := desk(drawRow(draw, 2, machines))
	alike := draw.Intn(2) == 0
	for range before {
		many := machines
		if !alike {
			many = 1 + draw.Intn(impl.MaxBits)
		}
		d.Past = append(d.Past, drawRow(draw, 2, many))
	}
	return d
}

// eachDrawnDesk calls see with so many drawn desks for each number of machines and each number of rings of before.
func eachDrawnDesk(many int, see func(draw *rand.Rand, d impl.Desk)) {
	draw := drawer()
	for machines := 1; machines <= impl.MaxBits; machines++ {
		for before := 0; before <= impl.MaxPast; before++ {
			for range many {
				see(draw, drawDesk(draw, machines, before))
			}
		}
	}
}

// eachDesk calls see with desks of few machines, with drawn ones, and with such as have their ring among those of before.
func eachDesk(see func(d impl.Desk)) {
	eachFewDesk(see)
	eachDrawnDesk(4, func(draw *rand.Rand, d impl.Desk) {
		see(d)
		if before := len(d.Past); before > 0 {
			again := slices.Clone(d.Past)
			again[draw.Intn(before)] = d.Now
			see(desk(d.Now, again...))
		}
	})
}

// eachNoDesk calls see with values that are no desks, one thing wrong at a time.
func eachNoDesk(see func(d impl.Desk)) {
	draw := drawer()
	eachNoBits(func(row []int) {
		see(desk(row))
		see(desk(row, bitsIn("10")))
		see(desk(bitsIn("10"), row))
	})
	wrong := [][]int{nil, {}, {2}, {-1}, filled(impl.MaxBits+1, 0), with(filled(impl.MaxBits, 1), impl.MaxBits-1, 2)}
	for before := 1; before <= impl.MaxPast; before++ {
		for at := range before {
			for _, row := range wrong {
				d := drawDesk(draw, 1+draw.Intn(impl.MaxBits), before)
				d.Past[at] = row
				see(d)
			}
		}
	}
	for _, before := range []int{impl.MaxPast + 1, impl.MaxPast + 2, 2 * impl.MaxPast, 100} {
		for machines := 1; machines <= impl.MaxBits; machines++ {
			see(drawDesk(draw, machines, before))
		}
	}
}

// eachDeed calls see with deeds for a ring of so many machines: of each kind, and of others, with numbers that are places or not.
func eachDeed(machines int, see func(a impl.Deed)) {
	numbers := append(beyond(0, 99), -2, 0, 9, 10, 98, 99)
	for place := 1; place <= machines+1; place++ {
		numbers = append(numbers, place)
	}
	for kind := impl.DkSums; kind <= impl.DkBack; kind++ {
		for _, n := range numbers {
			see(deed(kind, n))
		}
	}
	for _, kind := range append(beyond(impl.DkSums, impl.DkBack), -2, 8) {
		for n := -1; n <= 2; n++ {
			see(deed(kind, n))
		}
	}
}

// plainDeeds returns the deeds of each kind with each place of a ring of so many machines, and with the next one past the end.
func plainDeeds(machines int) []impl.Deed {
	list := []impl.Deed{deed(impl.DkSums, 0), deed(impl.DkCars, 0), deed(impl.DkVotes, 0), deed(impl.DkFree, 0), deed(impl.DkBack, 0)}
	for place := range machines + 1 {
		list = append(list, deed(impl.DkFlip, place), deed(impl.DkRound, place))
	}
	return list
}

// drawDeed returns a deed that has a text; most of its places are some of up to so many machines.
func drawDeed(draw *rand.Rand, machines int) impl.Deed {
	if draw.Intn(15) == 0 {
		return deed(impl.DkFlip+draw.Intn(2), draw.Intn(100))
	}
	list := plainDeeds(machines)
	return list[draw.Intn(len(list))]
}

func drawDeeds(draw *rand.Rand, machines, many int) []impl.Deed {
	var list []impl.Deed
	for range many {
		list = append(list, drawDeed(draw, machines))
	}
	return list
}

// drawAnyDeeds returns deeds of which some cannot be done at any desk.
func drawAnyDeeds(draw *rand.Rand, machines, many int) []impl.Deed {
	list := drawDeeds(draw, machines, many)
	for at := range list {
		switch draw.Intn(8) {
		case 0:
			list[at].Kind = impl.DkBack + 1 + draw.Intn(3)
		case 1:
			list[at].N = -1 - draw.Intn(3)
		}
	}
	return list
}

// takesPlace tells of which kinds of deeds the number is a place.
func takesPlace(kind int) bool {
	return kind == impl.DkFlip || kind == impl.DkRound
}

// ringMade is a ring after a deed as the document tells it, reckoned machine by machine; nil if it has no such place, and for kinds that make none.
func ringMade(ring []int, a impl.Deed) []int {
	switch a.Kind {
	case impl.DkSums:
		return summedMachineByMachine(ring)
	case impl.DkCars:
		return drivenCarByCar(ring)
	case impl.DkVotes:
		return votedMachineByMachine(ring)
	case impl.DkFree:
		return freePlaceByPlace(ring)
	}
	for place, bit := range ring {
		if place == a.N && a.Kind == impl.DkFlip {
			return with(ring, place, 1-bit)
		}
		if place == a.N && a.Kind == impl.DkRound {
			return roundFrom(ring, place)
		}
	}
	return nil
}

// deskMade is a desk after a deed as the document tells it.
func deskMade(d impl.Desk, a impl.Deed) (impl.Desk, bool) {
	before := len(d.Past)
	if !takesPlace(a.Kind) && a.N != 0 {
		return d, false
	}
	if a.Kind == impl.DkBack && before > 0 {
		return desk(d.Past[before-1], d.Past[:before-1]...), true
	}
	next := ringMade(d.Now, a)
	if next == nil || slices.Equal(next, d.Now) {
		return d, false
	}
	past := append(slices.Clone(d.Past), d.Now)
	for len(past) > impl.MaxPast {
		past = past[1:]
	}
	return desk(next, past...), true
}

// runMade is a desk after deeds, one by one, and how many of these were done.
func runMade(d impl.Desk, list []impl.Deed) (impl.Desk, int) {
	count := 0
	for _, a := range list {
		next, done := deskMade(d, a)
		d = next
		count += asNumber(done)
	}
	return d, count
}

// textMade is the text of a deed, or "" if it has none.
func textMade(a impl.Deed) string {
	word, ok := map[int]string{0: "sums", 1: "cars", 2: "votes", 3: "flip", 4: "round", 5: "free", 6: "back"}[a.Kind]
	if ok && takesPlace(a.Kind) && 0 <= a.N && a.N <= 99 {
		return fmt.Sprintf("%s %d", word, a.N)
	}
	if ok && !takesPlace(a.Kind) && a.N == 0 {
		return word
	}
	return ""
}

// deedTexts returns all texts of deeds that there are, with their deeds.
func deedTexts() map[string]impl.Deed {
	texts := map[string]impl.Deed{}
	for kind := impl.DkSums; kind <= impl.DkBack; kind++ {
		for n := range 100 {
			if text := textMade(deed(kind, n)); text != "" {
				texts[text] = deed(kind, n)
			}
		}
	}
	return texts
}

// deedOfText is what the texts of deeds look like.
var deedOfText = regexp.MustCompile(`\A(?:(flip|round) (0|[1-9][0-9]?)|(?:sums|cars|votes|free|back))\z`)

// numberAsked is what questions with a number look like.
var numberAsked = regexp.MustCompile(`\A(middles|rounds|fire) (0|[1-9][0-9]{0,5})\z`)

// commas writes numbers with commas between them.
func commas(numbers []int) string {
	return strings.ReplaceAll(strings.Trim(fmt.Sprint(numbers), "[]"), " ", ",")
}

// squadTold is what a question with a number tells; nothing if there is no such row.
func squadTold(word string, n int) []int {
	var numbers []int
	if n < 1 || n > impl.MaxCells {
		return nil
	}
	switch word {
	case "fire":
		return []int{fireWalked(n)}
	case "middles":
		for place := range n + 1 {
			if away := n - 2*place; away >= -1 && away <= 1 {
				numbers = append(numbers, place)
			}
		}
	case "rounds":
		for ; n > 1; n -= n / 2 {
			numbers = append(numbers, n)
		}
	}
	return numbers
}

// ringTold is the answer to a question about a ring, and whether it is one.
func ringTold(ring []int, word string) (string, bool) {
	switch word {
	case "row":
		return digitsIn(ring), true
	case "ones":
		return strconv.Itoa(sumOf(ring)), true
	case "flow":
		return strconv.Itoa(flowCounted(ring)), true
	case "end":
		return strconv.Itoa(endCounted(ring)), true
	case "flowing":
		return strconv.Itoa(flowingCounted(ring)), true
	case "settled":
		return strconv.Itoa(settledByNearestFirm(ring)), true
	case "firm":
		var places []int
		for place := range ring {
			if firmIn(ring, place) {
				places = append(places, place)
			}
		}
		return commas(places), true
	}
	return "", false
}

// lineMade is a desk after a line, and the answer, as the document tells them.
func lineMade(d impl.Desk, line string) (impl.Desk, string) {
	if deedOfText.MatchString(line) {
		if next, done := deskMade(d, deedTexts()[line]); done {
			return next, "ok"
		}
		return d, "not"
	}
	if told, ok := ringTold(d.Now, line); ok {
		return d, told
	}
	asked := numberAsked.FindStringSubmatch(line)
	if asked == nil {
		return d, "what"
	}
	n, _ := strconv.Atoi(asked[2])
	if numbers := squadTold(asked[1], n); len(numbers) > 0 {
		return d, commas(numbers)
	}
	return d, "none"
}

// ringQuestions are the words of the questions about a ring.
var ringQuestions = []string{"row", "ones", "flow", "end", "flowing", "settled", "firm"}

// numberQuestions returns questions with numbers: each one of up to two digits, those beside the powers of ten, and the greatest ones of six and of seven digits.
func numberQuestions() []string {
	var lines []string
	ask := func(n int) {
		for _, word := range []string{"middles", "rounds", "fire"} {
			lines = append(lines, word+" "+strconv.Itoa(n))
		}
	}
	for n := range 102 {
		ask(n)
	}
	for power := 1000; power <= 1000000; power *= 10 {
		ask(power - 1)
		ask(power)
		ask(power + 1)
	}
	ask(123456)
	ask(9999999)
	return lines
}

// noLines returns lines that are neither deeds nor questions.
func noLines() []string {
	lines := []string{"", " ", "\n", "\x00", "\xff\xfe", "what", "none", "ok", "not", "help", "é", "ｒow", "1100", "9", "fires 9", "middle 5", "round9", "fire9", "row 1", "row row", "sums cars", "fire nine"}
	none := []string{"", " ", "  9", " 9", "9 ", "9\n", "9\r", "9\x00", "-1", "+9", "-0", "00", "01", "09", "007", "000009", "0000009", "9.", "9.0", "0x9", "9e1", "1_0", "9 9", "9,9", "x", "٩", "１", "99999999999999999999", "18446744073709551625", "-18446744073709551607", "9223372036854775808"}
	for _, word := range []string{"middles", "rounds", "fire", "flip", "round", "sums", "row"} {
		for _, number := range none {
			lines = append(lines, word+" "+number)
		}
	}
	for _, word := range []string{"flip", "round"} {
		for _, number := range []string{"100", "101", "999", "1000"} {
			lines = append(lines, word+" "+number)
		}
	}
	return append(lines, "middles", "rounds", "fire", "flip", "round", "fire 1000000", "rounds 9999999")
}

// eachNear calls see with each text that has one byte less, more or another one than a text, and with it in other cases and twice.
func eachNear(text string, see func(near string)) {
	see(strings.ToUpper(text))
	see(strings.ToTitle(text[:1]) + text[1:])
	see(text + text)
	see(text + " " + text)
	for at := 0; at <= len(text); at++ {
		for other := range 256 {
			see(text[:at] + string([]byte{byte(other)}) + text[at:])
			if at < len(text) {
				see(text[:at] + string([]byte{byte(other)}) + text[at+1:])
			}
		}
		if at < len(text) {
			see(text[:at] + text[at+1:])
		}
	}
}

// drawLine returns a line, of which about half are deeds, and of the others most are questions.
func drawLine(draw *rand.Rand, machines int) string {
	from := noLines()
	switch draw.Intn(8) {
	case 0, 1, 2, 3:
		return textMade(drawDeed(draw, machines))
	case 4, 5:
		from = ringQuestions
	case 6:
		from = numberQuestions()
	}
	return from[draw.Intn(len(from))]
}

func drawLines(draw *rand.Rand, machines, many int) []string {
	var lines []string
	for range many {
		lines = append(lines, drawLine(draw, machines))
	}
	return lines
}

// sayMade is a desk after lines, one by one, and the answers.
func sayMade(d impl.Desk, lines []string) (impl.Desk, []string) {
	var answers []string
	for _, line := range lines {
		next, answer := lineMade(d, line)
		d = next
		answers = append(answers, answer)
	}
	return d, answers
}

func sameDesk(a, b impl.Desk) bool {
	return slices.Equal(a.Now, b.Now) && slices.EqualFunc(a.Past, b.Past, slices.Equal[[]int])
}

func wantDesk(t *testing.T, got, want impl.Desk, what string, about ...any) {
	t.Helper()
	if !sameDesk(got, want) {
		t.Errorf("%s%v = %v, want %v", what, about, got, want)
	}
}

func wantDo(t *testing.T, d impl.Desk, a impl.Deed, want impl.Desk, wantDone bool) {
	t.Helper()
	got, done := impl.DeskDo(d, a)
	wantDesk(t, got, want, "DeskDo", d, a)
	if done != wantDone {
		t.Errorf("DeskDo(%v, %v) = %v, want %v", d, a, done, wantDone)
	}
}

func wantRun(t *testing.T, d impl.Desk, list []impl.Deed, want impl.Desk, wantCount int) {
	t.Helper()
	got, count := impl.DeskRun(d, list)
	wantDesk(t, got, want, "DeskRun", d, list)
	if count != wantCount {
		t.Errorf("DeskRun(%v, %v) did %d, want %d", d, list, count, wantCount)
	}
}

func wantLine(t *testing.T, d impl.Desk, line string, want impl.Desk, wantAnswer string) {
	t.Helper()
	got, answer := impl.DeskLine(d, line)
	wantDesk(t, got, want, "DeskLine", d, strconv.Quote(line))
	if answer != wantAnswer {
		t.Errorf("DeskLine(%v, %q) = %q, want %q", d, line, answer, wantAnswer)
	}
}

func wantSay(t *testing.T, d impl.Desk, lines []string, want impl.Desk, wantAnswers []string) {
	t.Helper()
	got, answers := impl.DeskSay(d, lines)
	wantDesk(t, got, want, "DeskSay", d, lines)
	if !slices.Equal(answers, wantAnswers) {
		t.Errorf("DeskSay(%v, %q) = %q, want %q", d, lines, answers, wantAnswers)
	}
}

func wantRead(t *testing.T, s string, want impl.Deed, wantOk bool) {
	t.Helper()
	if a, ok := impl.ReadDeed(s); a != want || ok != wantOk {
		t.Errorf("ReadDeed(%q) = %v, %v, want %v, %v", s, a, ok, want, wantOk)
	}
}

func wantJournal(t *testing.T, s string, want []impl.Deed, wantBytes int) {
	t.Helper()
	if list, read := impl.ReadJournal(s); !slices.Equal(list, want) || read != wantBytes {
		t.Errorf("ReadJournal(%q) = %v, %d, want %v, %d", s, list, read, want, wantBytes)
	}
}

func wantDeskOk(t *testing.T, d impl.Desk, want bool) {
	t.Helper()
	if got := impl.DeskOk(d); got != want {
		t.Errorf("DeskOk(%v) = %v", d, got)
	}
}

func TestConstantsOfChapter12(t *testing.T) {
	kinds := []int{impl.DkSums, impl.DkCars, impl.DkVotes, impl.DkFlip, impl.DkRound, impl.DkFree, impl.DkBack}
	wantRow(t, kinds, []int{0, 1, 2, 3, 4, 5, 6}, "the kinds of deeds")
	wantRow(t, []int{impl.MaxPast, impl.MaxLines}, []int{8, 40}, "the bounds of chapter 12")
}

// Promise 63: behind each other deed DkBack leads to the same desk, the desk is one, cars and turns keep the ones, and what cannot be done changes nothing.
func TestWhatWasDoneCanBeUndone(t *testing.T) {
	eachDesk(func(d impl.Desk) {
		eachDeed(len(d.Now), func(a impl.Deed) { wantUndone(t, d, a) })
	})
}

func wantUndone(t *testing.T, d impl.Desk, a impl.Deed) {
	t.Helper()
	next, done := impl.DeskDo(d, a)
	wantDeskOk(t, next, true)
	if !done {
		wantDesk(t, next, d, "DeskDo, of what cannot be done,", d, a)
		return
	}
	if a.Kind == impl.DkCars || a.Kind == impl.DkRound {
		wantNumber(t, impl.OnesOf(next.Now), impl.OnesOf(d.Now), "OnesOf a deed of", d.Now)
	}
	if a.Kind == impl.DkBack {
		return
	}
	// With MaxPast rings of before the first one is gone for good.
	kept := d.Past[max(0, len(d.Past)+1-impl.MaxPast):]
	wantDo(t, next, deed(impl.DkBack, 0), desk(d.Now, kept...), true)
}

func TestDeedsMachineByMachine(t *testing.T) {
	eachDesk(func(d impl.Desk) {
		eachDeed(len(d.Now), func(a impl.Deed) {
			want, done := deskMade(d, a)
			wantDo(t, d, a, want, done)
		})
	})
	for _, now := range fewBits(10) {
		for _, a := range plainDeeds(len(now)) {
			want, done := deskMade(desk(now), a)
			wantDo(t, desk(now), a, want, done)
		}
	}
}

func TestDeedsByHand(t *testing.T) {
	cases := []struct {
		now  string
		a    impl.Deed
		want string
	}{
		{"0", deed(impl.DkFlip, 0), "1"},
		{"1", deed(impl.DkFlip, 0), "0"},
		{"0", deed(impl.DkFree, 0), "1"},
		{"1", deed(impl.DkFree, 0), "0"},
		{"1", deed(impl.DkSums, 0), "0"},
		{"10", deed(impl.DkSums, 0), "00"},
		{"11", deed(impl.DkSums, 0), "00"},
		{"10", deed(impl.DkCars, 0), "01"},
		{"01", deed(impl.DkCars, 0), "10"},
		{"10", deed(impl.DkRound, 1), "01"},
		{"11", deed(impl.DkFree, 0), "00"},
		{"10", deed(impl.DkFlip, 0), "00"},
		{"10", deed(impl.DkFlip, 1), "11"},
		{"010", deed(impl.DkVotes, 0), "000"},
		{"1100", deed(impl.DkSums, 0), "1111"},
		{"1100", deed(impl.DkCars, 0), "1010"},
		{"1010", deed(impl.DkVotes, 0), "1100"},
		{"1100", deed(impl.DkFlip, 3), "1101"},
		{"1100", deed(impl.DkRound, 1), "1001"},
		{"1100", deed(impl.DkRound, 3), "0110"},
		{"1000", deed(impl.DkFree, 0), "1110"},
		{"1111111111111111", deed(impl.DkFlip, 15), "1111111111111110"},
		{"1111111111111110", deed(impl.DkRound, 15), "0111111111111111"},
	}
	for _, c := range cases {
		now := bitsIn(c.now)
		wantDo(t, desk(now), c.a, desk(bitsIn(c.want), now), true)
		wantDo(t, desk(now, bitsIn("01"), bitsIn("1")), c.a, desk(bitsIn(c.want), bitsIn("01"), bitsIn("1"), now), true)
	}
}

func TestDeedsThatLeaveTheRingAsItIs(t *testing.T) {
	cases := []struct {
		now string
		a   impl.Deed
	}{
		{"0", deed(impl.DkSums, 0)},
		{"0", deed(impl.DkCars, 0)},
		{"1", deed(impl.DkCars, 0)},
		{"0", deed(impl.DkVotes, 0)},
		{"1", deed(impl.DkVotes, 0)},
		{"1", deed(impl.DkRound, 0)},
		{"00", deed(impl.DkSums, 0)},
		{"11", deed(impl.DkCars, 0)},
		{"10", deed(impl.DkVotes, 0)},
		{"10", deed(impl.DkFree, 0)},
		{"01", deed(impl.DkFree, 0)},
		{"11", deed(impl.DkRound, 1)},
		{"110", deed(impl.DkSums, 0)},
		{"1100", deed(impl.DkVotes, 0)},
		{"1100", deed(impl.DkFree, 0)},
		{"1100", deed(impl.DkRound, 0)},
		{"1010", deed(impl.DkRound, 2)},
	}
	for _, c := range cases {
		for _, past := range [][][]int{nil, bitsIns("1"), bitsIns("10", "011", "1")} {
			d := desk(bitsIn(c.now), past...)
			wantDo(t, d, c.a, d, false)
		}
	}
}

// A machine is turned, and the ring goes round, at the first place and the last one, but at none past the end or below 0; a ring begun at its first place is as it was.
func TestDeedsAtPlaces(t *testing.T) {
	eachDrawnDesk(2, func(draw *rand.Rand, d impl.Desk) {
		machines := len(d.Now)
		past := append(slices.Clone(d.Past), d.Now)
		past = past[max(0, len(past)-impl.MaxPast):]
		for _, place := range []int{0, machines - 1} {
			wantDo(t, d, deed(impl.DkFlip, place), desk(with(d.Now, place, 1-d.Now[place]), past...), true)
		}
		wantDo(t, d, deed(impl.DkRound, 0), d, false)
		for _, place := range append(beyond(0, machines-1), machines+1, 99, 100) {
			if place >= 0 && place < machines {
				continue
			}
			wantDo(t, d, deed(impl.DkFlip, place), d, false)
			wantDo(t, d, deed(impl.DkRound, place), d, false)
		}
	})
	for machines := 2; machines <= impl.MaxBits; machines++ {
		first, last := with(filled(machines, 0), 0, 1), with(filled(machines, 0), machines-1, 1)
		wantDo(t, desk(last), deed(impl.DkRound, machines-1), desk(first, last), true)
	}
}

func TestDeedsWithANumberThatIsNoPlace(t *testing.T) {
	d := desk(bitsIn("11010"), bitsIns("1", "0110")...)
	for _, kind := range []int{impl.DkSums, impl.DkCars, impl.DkVotes, impl.DkFree, impl.DkBack} {
		if _, done := impl.DeskDo(d, deed(kind, 0)); !done {
			t.Errorf("DeskDo(%v, %d) was not done", d, kind)
		}
		for _, n := range append(beyond(0, 0), 2, 3, 4, 5) {
			wantDo(t, d, deed(kind, n), d, false)
		}
	}
}

func TestDeedsOfOtherKinds(t *testing.T) {
	d := desk(bitsIn("11010"), bitsIn("1"))
	for kind := -300; kind <= 300; kind++ {
		if kind < 0 || kind > 6 {
			wantDo(t, d, deed(kind, 0), d, false)
			wantDo(t, d, deed(kind, 1), d, false)
		}
	}
}

// Back puts the last ring of before there, with its own number of machines, also if it is the ring that is there; without one it cannot be done.
func TestBack(t *testing.T) {
	back := deed(impl.DkBack, 0)
	wantDo(t, desk(bitsIn("110")), back, desk(bitsIn("110")), false)
	wantDo(t, desk(bitsIn("110"), bitsIn("0")), back, desk(bitsIn("0")), true)
	wantDo(t, desk(bitsIn("1"), bitsIns("0110", "10")...), back, desk(bitsIn("10"), bitsIn("0110")), true)
	wantDo(t, desk(bitsIn("10"), bitsIn("10")), back, desk(bitsIn("10")), true)
	eachDrawnDesk(2, func(draw *rand.Rand, d impl.Desk) {
		for before := len(d.Past) - 1; before >= 0; before-- {
			next, done := impl.DeskDo(d, back)
			wantDesk(t, next, desk(d.Past[before], d.Past[:before]...), "DeskDo", d, back)
			if !done {
				t.Errorf("DeskDo(%v, back) was not done", d)
			}
			d = next
		}
		wantDo(t, d, back, d, false)
	})
}

// With MaxPast rings of before and one deed more the first one is gone, and as often as MaxPast it can be undone.
func TestMoreRingsOfBeforeThanStay(t *testing.T) {
	var rings [][]int
	d, _ := impl.DeskNew(filled(impl.MaxBits, 0))
	for place := range impl.MaxBits {
		rings = append(rings, d.Now)
		next, done := impl.DeskDo(d, deed(impl.DkFlip, place))
		if !done || len(next.Past) != min(place+1, impl.MaxPast) {
			t.Fatalf("DeskDo(%v, flip %d) = %v, %v", d, place, next, done)
		}
		d = next
	}
	wantDesk(t, d, desk(filled(impl.MaxBits, 1), rings[impl.MaxBits-impl.MaxPast:]...), "all machines turned")
	for undone := range impl.MaxPast {
		next, done := impl.DeskDo(d, deed(impl.DkBack, 0))
		if !done || !slices.Equal(next.Now, rings[impl.MaxBits-1-undone]) {
			t.Fatalf("DeskDo(%v, back) = %v, %v", d, next, done)
		}
		d = next
	}
	wantDo(t, d, deed(impl.DkBack, 0), desk(rings[impl.MaxBits-impl.MaxPast]), false)
}

// Promise 64: whatever is done, it is a desk; in two parts, one after the other, it is the same.
func TestWhateverIsDoneItIsARing(t *testing.T) {
	eachDrawnDesk(2, func(draw *rand.Rand, d impl.Desk) {
		list := drawAnyDeeds(draw, len(d.Now), draw.Intn(impl.MaxLines+1))
		all, count := impl.DeskRun(d, list)
		wantDeskOk(t, all, true)
		for cut := range len(list) + 1 {
			first, did := impl.DeskRun(d, list[:cut])
			wantDeskOk(t, first, true)
			wantRun(t, first, list[cut:], all, count-did)
		}
	})
}

func TestRunsDeedByDeed(t *testing.T) {
	eachDrawnDesk(1, func(draw *rand.Rand, d impl.Desk) {
		for many := range impl.MaxLines + 1 {
			list := drawAnyDeeds(draw, len(d.Now), many)
			want, count := runMade(d, list)
			wantRun(t, d, list, want, count)
		}
	})
	for _, now := range fewBits(3) {
		d := desk(now, bitsIn("01"))
		for _, first := range plainDeeds(len(now)) {
			for _, second := range plainDeeds(len(now)) {
				list := []impl.Deed{first, second, deed(impl.DkBack, 1), first}
				want, count := runMade(d, list)
				wantRun(t, d, list, want, count)
			}
		}
	}
}

func TestRunsByHand(t *testing.T) {
	sums, cars, votes, free, back := deed(impl.DkSums, 0), deed(impl.DkCars, 0), deed(impl.DkVotes, 0), deed(impl.DkFree, 0), deed(impl.DkBack, 0)
	cases := []struct {
		now   string
		list  []impl.Deed
		want  string
		past  []string
		count int
	}{
		{"1100", nil, "1100", nil, 0},
		{"1100", []impl.Deed{back, votes, free, back}, "1100", nil, 0},
		{"1100", []impl.Deed{cars, votes, cars, back}, "1100", []string{"1100", "1010"}, 4},
		{"1100", []impl.Deed{cars, back, back, sums, sums, sums}, "0000", []string{"1100", "1111"}, 4},
		{"1100", []impl.Deed{deed(impl.DkFlip, 4), deed(impl.DkFlip, 3), deed(impl.DkRound, 0), deed(impl.DkRound, 2)}, "0111", []string{"1100", "1101"}, 2},
		{"1", []impl.Deed{free, free, free, sums, cars, votes, back}, "1", []string{"1", "0"}, 4},
		{"1", []impl.Deed{sums, sums, deed(impl.DkRound, 0), deed(impl.DkFlip, 0)}, "1", []string{"1", "0"}, 2},
	}
	for _, c := range cases {
		wantRun(t, desk(bitsIn(c.now)), c.list, desk(bitsIn(c.want), bitsIns(c.past...)...), c.count)
	}
}

// No deeds leave a desk as it is, MaxLines may be done, and one more are too many, even if they cannot be done.
func TestRunsOfFewAndManyDeeds(t *testing.T) {
	eachDrawnDesk(1, func(draw *rand.Rand, d impl.Desk) {
		wantRun(t, d, nil, d, 0)
		wantRun(t, d, []impl.Deed{}, d, 0)
		flips := make([]impl.Deed, 1000)
		for at := range flips {
			flips[at] = deed(impl.DkFlip, 0)
		}
		want, _ := runMade(d, flips[:impl.MaxLines])
		wantRun(t, d, flips[:impl.MaxLines], want, impl.MaxLines)
		nothing := make([]impl.Deed, 1000)
		for at := range nothing {
			nothing[at] = deed(impl.DkBack, 1)
		}
		wantRun(t, d, nothing[:impl.MaxLines], d, 0)
		for _, many := range []int{impl.MaxLines + 1, impl.MaxLines + 2, 2 * impl.MaxLines, 1000} {
			wantRun(t, d, flips[:many], impl.Desk{}, 0)
			wantRun(t, d, nothing[:many], impl.Desk{}, 0)
		}
	})
}

// Promise 65 and 72: JournalText of the deeds is what was read, and of any beginning of the text the first ones of these deeds are read, and no others.
func TestWhereverAJournalIsCut(t *testing.T) {
	draw := drawer()
	for many := range impl.MaxLines + 3 {
		list := drawDeeds(draw, impl.MaxBits, many)
		text, ends := "", []int{0}
		for _, a := range list {
			text += textMade(a) + "\n"
			ends = append(ends, len(text))
		}
		if got := impl.JournalText(list); got != text {
			t.Errorf("JournalText(%v) = %q, want %q", list, got, text)
		}
		read := 0
		for cut := range len(text) + 1 {
			if read < many && cut == ends[read+1] {
				read++
			}
			wantJournal(t, text[:cut], list[:read], ends[read])
			if got := impl.JournalText(list[:read]); got != text[:ends[read]] {
				t.Errorf("JournalText(%v) = %q", list[:read], got)
			}
		}
	}
}

// Promise 65: said line by line the deeds of a journal lead to the desk to which DeskRun leads.
func TestJournalsSaidLineByLine(t *testing.T) {
	eachDrawnDesk(1, func(draw *rand.Rand, d impl.Desk) {
		text := impl.JournalText(drawDeeds(draw, len(d.Now), impl.MaxLines))
		for cut := 0; cut <= len(text); cut += 1 + draw.Intn(15) {
			list, read := impl.ReadJournal(text[:cut])
			lines := strings.Split(text[:read], "\n")
			lines = lines[:len(lines)-1]
			run, count := impl.DeskRun(d, list)
			said, answers := impl.DeskSay(d, lines)
			wantDesk(t, said, run, "DeskSay", d, lines)
			done := 0
			for _, answer := range answers {
				done += asNumber(answer == "ok")
			}
			if len(answers) != len(list) || done != count {
				t.Errorf("DeskSay(%v, %q) = %q, but DeskRun did %d", d, lines, answers, count)
			}
		}
	})
}

func TestJournalsByHand(t *testing.T) {
	sums, back, flip := deed(impl.DkSums, 0), deed(impl.DkBack, 0), deed(impl.DkFlip, 12)
	cases := []struct {
		text string
		want []impl.Deed
		read int
	}{
		{"", nil, 0},
		{"\n", nil, 0},
		{"sums", nil, 0},
		{"\nsums\n", nil, 0},
		{" sums\n", nil, 0},
		{"sums \n", nil, 0},
		{"sums\r\n", nil, 0},
		{"Sums\n", nil, 0},
		{"sum\n", nil, 0},
		{"sums\x00\n", nil, 0},
		{"sums\n", []impl.Deed{sums}, 5},
		{"sums\nback", []impl.Deed{sums}, 5},
		{"sums\n\n", []impl.Deed{sums}, 5},
		{"sums\n\nback\n", []impl.Deed{sums}, 5},
		{"sums\n back\n", []impl.Deed{sums}, 5},
		{"sums\nwhat\nback\n", []impl.Deed{sums}, 5},
		{"sums\nrow\nback\n", []impl.Deed{sums}, 5},
		{"sums\nflip 012\nback\n", []impl.Deed{sums}, 5},
		{"sums\nflip 100\nback\n", []impl.Deed{sums}, 5},
		{"sums\nflip\n12\n", []impl.Deed{sums}, 5},
		{"sums\nback\n", []impl.Deed{sums, back}, 10},
		{"flip 12\nback\nsums", []impl.Deed{flip, back}, 13},
		{"flip 12\nflip 12\nflip 12\nflip 1", []impl.Deed{flip, flip, flip}, 24},
		{"flip 12\nsums\nback\nflip 12 \nsums\n", []impl.Deed{flip, sums, back}, 18},
	}
	for _, c := range cases {
		wantJournal(t, c.text, c.want, c.read)
	}
}

// A line that is no text of a deed ends what is read, at whatever place it stands.
func TestJournalsWithALineThatIsNone(t *testing.T) {
	draw := drawer()
	for many := range 12 {
		list := drawDeeds(draw, impl.MaxBits, many)
		for at := range many + 1 {
			before, behind := impl.JournalText(list[:at]), impl.JournalText(list[at:])
			for _, line := range append(noLines(), ringQuestions...) {
				if strings.Contains(line, "\n") {
					continue
				}
				wantJournal(t, before+line+"\n"+behind, list[:at], len(before))
			}
		}
	}
}

// A journal has no bound of lines.
func TestLongJournals(t *testing.T) {
	list := drawDeeds(drawer(), impl.MaxBits, 5000)
	text := impl.JournalText(list)
	if strings.Count(text, "\n") != len(list) {
		t.Errorf("the journal of %d deeds has %d lines", len(list), strings.Count(text, "\n"))
	}
	wantJournal(t, text, list, len(text))
}

func TestJournalsOfDeedsWithoutText(t *testing.T) {
	if got := impl.JournalText(nil); got != "" {
		t.Errorf("JournalText(nil) = %q", got)
	}
	list := drawDeeds(drawer(), impl.MaxBits, 7)
	for at := range list {
		for _, none := range []impl.Deed{deed(-1, 0), deed(7, 0), deed(impl.DkSums, 1), deed(impl.DkBack, -1), deed(impl.DkFlip, 100), deed(impl.DkRound, -1)} {
			wrong := slices.Clone(list)
			wrong[at] = none
			if got := impl.JournalText(wrong); got != "" {
				t.Errorf("JournalText(%v) = %q", wrong, got)
			}
		}
	}
}

// Promise 66: two parts of the lines lead to the same desk and the same answers, of which none is empty; behind any lines nine fire after 23, and the row is told.
func TestWhateverIsSaidNineFireAfterTwentyThree(t *testing.T) {
	eachDrawnDesk(1, func(draw *rand.Rand, d impl.Desk) {
		lines := drawLines(draw, len(d.Now), draw.Intn(impl.MaxLines+1))
		all, answers := impl.DeskSay(d, lines)
		wantDeskOk(t, all, true)
		if len(answers) != len(lines) || slices.Contains(answers, "") {
			t.Fatalf("DeskSay(%v, %q) = %q", d, lines, answers)
		}
		for cut := range len(lines) + 1 {
			first, before := impl.DeskSay(d, lines[:cut])
			if !slices.Equal(before, answers[:cut]) {
				t.Errorf("DeskSay(%v, %q) = %q, want %q", d, lines[:cut], before, answers[:cut])
			}
			wantSay(t, first, lines[cut:], all, answers[cut:])
			wantSay(t, first, []string{"fire 9", "row"}, first, []string{"23", impl.RowText(first.Now)})
		}
	})
}

func TestSayingLineByLine(t *testing.T) {
	eachDrawnDesk(1, func(draw *rand.Rand, d impl.Desk) {
		for range 5 {
			lines := drawLines(draw, len(d.Now), draw.Intn(impl.MaxLines+1))
			want, answers := sayMade(d, lines)
			wantSay(t, d, lines, want, answers)
		}
	})
}

// The lines of the document's example.
func TestTheExampleOfTheDesk(t *testing.T) {
	said := [][2]string{
		{"row", "1100"}, {"flow", "1"}, {"end", "2"}, {"flowing", "1"}, {"cars", "ok"}, {"row", "1010"}, {"settled", "1"}, {"votes", "ok"},
		{"row", "1100"}, {"back", "ok"}, {"sums", "ok"}, {"row", "0000"}, {"fire 9", "23"}, {"middles 5", "2,3"}, {"rounds 9", "9,5,3,2"},
	}
	d, _ := impl.DeskNew([]int{1, 1, 0, 0})
	var lines, answers []string
	for _, each := range said {
		lines, answers = append(lines, each[0]), append(answers, each[1])
	}
	wantSay(t, d, lines, desk(bitsIn("0000"), bitsIns("1100", "1010")...), answers)
}

// No lines have no answers, MaxLines may be said, and one more are too many, even if none of them is a deed or a question.
func TestSayingFewAndManyLines(t *testing.T) {
	eachDrawnDesk(1, func(draw *rand.Rand, d impl.Desk) {
		wantSay(t, d, nil, d, nil)
		wantSay(t, d, []string{}, d, nil)
		for _, line := range []string{"", "row", "flip 0", "what is it"} {
			lines := slices.Repeat([]string{line}, 1000)
			want, answers := sayMade(d, lines[:impl.MaxLines])
			wantSay(t, d, lines[:impl.MaxLines], want, answers)
			for _, many := range []int{impl.MaxLines + 1, impl.MaxLines + 2, 2 * impl.MaxLines, 1000} {
				wantSay(t, d, lines[:many], impl.Desk{}, nil)
			}
		}
	})
}

// Promise 67: the text of a row has as many bytes as machines, and as many of them are 1 as OnesOf.
func TestTextsHaveADigitForEachMachine(t *testing.T) {
	eachOfAllBits(func(row []int) {
		text := impl.RowText(row)
		if text != digitsIn(row) || len(text) != len(row) || strings.Count(text, "1") != impl.OnesOf(row) {
			t.Errorf("RowText(%v) = %q", row, text)
		}
	})
}

func TestTextsOfNoRows(t *testing.T) {
	eachNoBits(func(row []int) {
		if got := impl.RowText(row); got != "" {
			t.Errorf("RowText(%v) = %q", row, got)
		}
	})
}

// Promise 68: without any rings of before a desk is one, and without some of them.
func TestDesksCanForget(t *testing.T) {
	eachDesk(func(d impl.Desk) {
		wantDeskOk(t, d, true)
		wantDeskOk(t, desk(d.Now), true)
		wantDeskOk(t, desk(d.Now, [][]int{}...), true)
		for cut := range d.Past {
			wantDeskOk(t, desk(d.Now, d.Past[:cut]...), true)
			wantDeskOk(t, desk(d.Now, d.Past[cut:]...), true)
		}
	})
}

func TestDesksThatAreNone(t *testing.T) {
	wantDeskOk(t, impl.Desk{}, false)
	eachNoDesk(func(d impl.Desk) { wantDeskOk(t, d, false) })
	for before := range 2 * impl.MaxPast {
		wantDeskOk(t, desk(bitsIn("1"), slices.Repeat(bitsIns("10"), before)...), before <= 8)
	}
}

// Promise 69: a new desk has the ring, without any of before.
func TestNewDesksHaveOneRing(t *testing.T) {
	eachOfAllBits(func(row []int) {
		d, ok := impl.DeskNew(row)
		if !ok || len(d.Past) != 0 || !slices.Equal(d.Now, row) {
			t.Errorf("DeskNew(%v) = %v, %v", row, d, ok)
		}
	})
}

func TestNoNewDesks(t *testing.T) {
	eachNoBits(func(row []int) {
		d, ok := impl.DeskNew(row)
		wantDesk(t, d, impl.Desk{}, "DeskNew", row)
		if ok {
			t.Errorf("DeskNew(%v) is a desk", row)
		}
	})
}

// Promise 70: ReadDeed of the text of a deed, if there is one, is the deed.
func TestTextsOfDeedsAreRead(t *testing.T) {
	see := func(a impl.Deed) {
		text := impl.DeedText(a)
		if text != textMade(a) {
			t.Errorf("DeedText(%v) = %q, want %q", a, text, textMade(a))
		}
		if text != "" {
			wantRead(t, text, a, true)
		}
	}
	for kind := -10; kind <= 20; kind++ {
		for n := -300; n <= 300; n++ {
			see(deed(kind, n))
		}
	}
	eachDeed(impl.MaxBits, see)
}

func TestTextsOfDeedsByHand(t *testing.T) {
	cases := []struct {
		a    impl.Deed
		want string
	}{
		{impl.Deed{}, "sums"},
		{deed(impl.DkCars, 0), "cars"},
		{deed(impl.DkVotes, 0), "votes"},
		{deed(impl.DkFree, 0), "free"},
		{deed(impl.DkBack, 0), "back"},
		{deed(impl.DkFlip, 0), "flip 0"},
		{deed(impl.DkFlip, 9), "flip 9"},
		{deed(impl.DkRound, 10), "round 10"},
		{deed(impl.DkRound, 99), "round 99"},
		{deed(impl.DkFlip, 100), ""},
		{deed(impl.DkFlip, -1), ""},
		{deed(impl.DkSums, 1), ""},
		{deed(impl.DkBack, -1), ""},
		{deed(7, 0), ""},
		{deed(-1, 0), ""},
	}
	for _, c := range cases {
		if got := impl.DeedText(c.a); got != c.want {
			t.Errorf("DeedText(%v) = %q, want %q", c.a, got, c.want)
		}
	}
}

// Promise 71: DeedText of a deed that is read is the text, and with a space behind it a text is refused, as with any other byte, unless that makes the text of another deed.
func TestReadTextsAreCanonical(t *testing.T) {
	texts := deedTexts()
	if len(texts) != 205 {
		t.Fatal(len(texts))
	}
	see := func(s string) {
		a, ok := texts[s]
		wantRead(t, s, a, ok)
		if ok && impl.DeedText(a) != s {
			t.Errorf("DeedText(%v) = %q, want %q", a, impl.DeedText(a), s)
		}
	}
	for text, a := range texts {
		wantRead(t, text, a, true)
		for _, wrong := range []string{text + " ", " " + text, text + "\n", text + "\x00", text + " 0", text + " 1", text + ".0"} {
			wantRead(t, wrong, impl.Deed{}, false)
		}
		eachNear(text, see)
	}
}

func TestTextsThatAreNoDeeds(t *testing.T) {
	for _, s := range slices.Concat(noLines(), ringQuestions, numberQuestions()) {
		wantRead(t, s, impl.Deed{}, false)
	}
	for _, word := range []string{"sums", "cars", "votes", "flip", "round", "free", "back", "", "row", "fire"} {
		for _, s := range []string{strings.ToUpper(word), word + " -1", word + " +1", word + " 01", word + " 00", word + " 100", word + "  1", word + "1", word + " 1 ", word + " 1.", word + "\t1", word + " x"} {
			wantRead(t, s, impl.Deed{}, false)
		}
		for other := range 256 {
			behind := word + string([]byte{byte(other)})
			wantRead(t, behind, impl.Deed{}, false)
			wantRead(t, behind+behind, impl.Deed{}, false)
		}
	}
	for first := range 256 {
		for second := range 256 {
			wantRead(t, string([]byte{byte(first), byte(second)}), impl.Deed{}, false)
		}
	}
}

// Promise 73: the desk after a line is one, and unless the answer is ok it is the desk before; an empty line is answered by what.
func TestQuestionsChangeNothing(t *testing.T) {
	var deeds []string
	for text := range deedTexts() {
		deeds = append(deeds, text)
	}
	lines := slices.Concat(ringQuestions, numberQuestions(), noLines(), deeds)
	eachDrawnDesk(1, func(draw *rand.Rand, d impl.Desk) {
		wantLine(t, d, "", d, "what")
		for _, line := range lines {
			next, answer := impl.DeskLine(d, line)
			wantDeskOk(t, next, true)
			if answer == "" {
				t.Errorf("DeskLine(%v, %q) has no answer", d, line)
			}
			if answer != "ok" {
				wantDesk(t, next, d, "DeskLine, answered by "+answer, d, line)
			}
			want, wantAnswer := lineMade(d, line)
			wantLine(t, d, line, want, wantAnswer)
		}
	})
}

func TestQuestionsAboutRings(t *testing.T) {
	eachFewDesk(func(d impl.Desk) {
		for _, word := range ringQuestions {
			told, _ := ringTold(d.Now, word)
			wantLine(t, d, word, d, told)
		}
	})
	for _, now := range fewBits(12) {
		d := desk(now)
		for _, word := range ringQuestions {
			told, _ := ringTold(now, word)
			wantLine(t, d, word, d, told)
		}
	}
}

func TestAnswersByHand(t *testing.T) {
	answers := map[string][]string{
		"0":                {"0", "0", "0", "0", "0", "0", "0"},
		"1":                {"1", "1", "0", "0", "0", "0", "0"},
		"00":               {"00", "0", "0", "0", "0", "0", "0,1"},
		"10":               {"10", "1", "1", "1", "0", "0", "0,1"},
		"1010":             {"1010", "2", "2", "2", "0", "1", "0,3"},
		"11010":            {"11010", "3", "2", "2", "0", "1", "0,1,4"},
		"1111111100000000": {"1111111100000000", "8", "1", "8", "7", "0", "0,1,2,3,4,5,6,7,8,9,10,11,12,13,14,15"},
		"0101010101010101": {"0101010101010101", "8", "8", "8", "0", "7", "0,15"},
	}
	for text, want := range answers {
		d := desk(bitsIn(text), bitsIn("01"))
		wantSay(t, d, ringQuestions, d, want)
	}
	d := desk(bitsIn("1"))
	for line, want := range map[string]string{
		"middles 1": "0,1", "middles 2": "1", "middles 39": "19,20", "middles 40": "20", "middles 0": "none", "middles 41": "none", "middles 999999": "none", "middles 1000000": "what",
		"rounds 2": "2", "rounds 3": "3,2", "rounds 40": "40,20,10,5,3,2", "rounds 1": "none", "rounds 0": "none", "rounds 41": "none", "rounds 100000": "none", "rounds 01": "what",
		"fire 1": "0", "fire 2": "2", "fire 3": "5", "fire 9": "23", "fire 0": "none", "fire 41": "none", "fire 999999": "none", "fire 1234567": "what", "fire 00": "what", "fire": "what", "fire ": "what", "fire -1": "what",
		"sums": "ok", "cars": "not", "votes": "not", "free": "ok", "back": "not", "flip 0": "ok", "flip 1": "not", "flip 99": "not", "flip 100": "what", "round 0": "not", "round 1": "not", "flip": "what", "ROW": "what",
	} {
		if _, answer := impl.DeskLine(d, line); answer != want {
			t.Errorf("DeskLine(%v, %q) = %q, want %q", d, line, answer, want)
		}
	}
}

// One byte decides whether a line is a deed, a question, or none.
func TestLinesThatAreNearOthers(t *testing.T) {
	d := desk(bitsIn("1101001"), bitsIns("10", "1101")...)
	see := func(line string) {
		want, answer := lineMade(d, line)
		wantLine(t, d, line, want, answer)
	}
	for _, line := range ringQuestions {
		eachNear(line, see)
	}
	for _, line := range []string{"middles 5", "rounds 12", "fire 9", "fire 0", "fire 100000", "rounds 999999", "flip 6", "flip 7", "round 3", "round 12", "sums", "cars", "votes", "free", "back"} {
		eachNear(line, see)
	}
	for _, line := range noLines() {
		wantLine(t, d, line, d, "what")
	}
	for first := range 256 {
		wantLine(t, d, string([]byte{byte(first)}), d, "what")
		for second := range 256 {
			wantLine(t, d, string([]byte{byte(first), byte(second)}), d, "what")
		}
	}
	wantLine(t, d, strings.Repeat("9", 100000), d, "what")
	wantLine(t, d, "fire "+strings.Repeat("9", 100000), d, "what")
	wantLine(t, d, "fire "+strings.Repeat("0", 100000)+"9", d, "what")
}

// All numbers of one to six digits are numbers, and those of seven are none.
func TestNumbersThatAreAskedFor(t *testing.T) {
	d := desk(bitsIn("10"))
	for n := 0; n <= 1000100; n++ {
		if n > 1100 && n < 999900 && n%997 != 0 {
			continue
		}
		for _, word := range []string{"middles", "rounds", "fire"} {
			want := "none"
			if numbers := squadTold(word, n); len(numbers) > 0 {
				want = commas(numbers)
			}
			if n > 999999 {
				want = "what"
			}
			wantLine(t, d, fmt.Sprintf("%s %d", word, n), d, want)
			wantLine(t, d, fmt.Sprintf("%s 0%d", word, n), d, "what")
		}
	}
}

// What is no desk has one result, whatever else is asked for.
func TestDeskingOfNone(t *testing.T) {
	eachNoDesk(func(d impl.Desk) {
		for _, a := range append(plainDeeds(2), deed(-1, 0), deed(7, 1), deed(impl.DkSums, 5)) {
			wantDo(t, d, a, impl.Desk{}, false)
		}
		for _, list := range [][]impl.Deed{nil, {{}}, plainDeeds(3), plainDeeds(40)} {
			wantRun(t, d, list, impl.Desk{}, 0)
		}
		for _, line := range []string{"", "row", "fire 9", "flip 0", "back", "what"} {
			wantLine(t, d, line, impl.Desk{}, "")
		}
		for _, lines := range [][]string{nil, {""}, {"row", "fire 9"}, slices.Repeat([]string{"row"}, impl.MaxLines+1)} {
			wantSay(t, d, lines, impl.Desk{}, nil)
		}
	})
}

// withSpare returns a desk in new memory, with something behind each of its slices that is not to be written to.
func withSpare(d impl.Desk) impl.Desk {
	behind := func(row []int) []int { return append(slices.Clone(row), 71, 72, 73)[:len(row)] }
	past := [][]int{}
	for _, ring := range d.Past {
		past = append(past, behind(ring))
	}
	return desk(behind(d.Now), append(past, []int{74}, []int{75})[:len(d.Past)]...)
}

// wholeDesk returns all rings of a desk with what is behind them, those behind the rings of before too.
func wholeDesk(d impl.Desk) [][]int {
	rings := [][]int{d.Now[:cap(d.Now)]}
	for _, ring := range d.Past[:cap(d.Past)] {
		rings = append(rings, ring[:cap(ring)])
	}
	return rings
}

func copiedRings(rings [][]int) [][]int {
	var list [][]int
	for _, ring := range rings {
		list = append(list, slices.Clone(ring))
	}
	return list
}

// overwriteDesk sets all numbers of a desk, those behind its rings too.
func overwriteDesk(d impl.Desk, number int) {
	for _, ring := range wholeDesk(d) {
		overwrite(ring, number)
	}
}

// wantUnwritten fails unless a desk and what is behind it is as it was.
func wantUnwritten(t *testing.T, d impl.Desk, before [][]int, what string) {
	t.Helper()
	if now := wholeDesk(d); !slices.EqualFunc(now, before, slices.Equal[[]int]) {
		t.Errorf("%s: the desk that was given became %v from %v", what, now, before)
	}
}

// wantDeskApart fails if a function writes to a desk that it is given, or to what is behind it in its memory; or if a desk that it returns shares memory with that one, with another result, or its rings with each other.
func wantDeskApart(t *testing.T, what string, d impl.Desk, call func(given impl.Desk) impl.Desk) {
	t.Helper()
	given := withSpare(d)
	before := copiedRings(wholeDesk(given))
	first := call(given)
	wantUnwritten(t, given, before, what)
	want := desk(slices.Clone(first.Now), copiedRings(first.Past)...)
	overwriteDesk(first, 81)
	clear(first.Past[:cap(first.Past)])
	wantUnwritten(t, given, before, what+", the first result written to")
	second := call(given)
	wantDesk(t, second, want, what+" called again")
	third := call(given)
	overwriteDesk(third, 82)
	clear(third.Past[:cap(third.Past)])
	wantDesk(t, second, want, what+" after another result was written to")
	overwriteDesk(given, 83)
	clear(given.Past[:cap(given.Past)])
	wantDesk(t, second, want, what+" after the desk that was given was written to")
	wantListsApart(t, what, func() [][]int { return wholeDesk(call(withSpare(d))) })
}

// wantAllApart asks all functions that return a desk.
func wantAllApart(t *testing.T, draw *rand.Rand, d impl.Desk) {
	t.Helper()
	for _, a := range append(plainDeeds(len(d.Now)), deed(impl.DkBack, 1), deed(7, 0), deed(impl.DkFlip, -1)) {
		wantDeskApart(t, "DeskDo", d, func(given impl.Desk) impl.Desk { next, _ := impl.DeskDo(given, a); return next })
	}
	for _, many := range []int{0, 1, 2, 5, impl.MaxPast, impl.MaxPast + 1, impl.MaxLines} {
		list := drawAnyDeeds(draw, len(d.Now), many)
		wantDeskApart(t, "DeskRun", d, func(given impl.Desk) impl.Desk { next, _ := impl.DeskRun(given, list); return next })
		lines := drawLines(draw, len(d.Now), many)
		wantDeskApart(t, "DeskSay", d, func(given impl.Desk) impl.Desk { next, _ := impl.DeskSay(given, lines); return next })
	}
	for _, line := range []string{"", "row", "fire 9", "sums", "flip 0", "flip 99", "back", "free"} {
		wantDeskApart(t, "DeskLine", d, func(given impl.Desk) impl.Desk { next, _ := impl.DeskLine(given, line); return next })
	}
}

func TestDesksShareNoMemory(t *testing.T) {
	eachDrawnDesk(1, func(draw *rand.Rand, d impl.Desk) {
		wantAllApart(t, draw, d)
		wantApart(t, "DeskNew", func(given [][]int) []int { next, _ := impl.DeskNew(given[0]); return next.Now }, d.Now)
		wantListsApart(t, "DeskNew", func() [][]int { next, _ := impl.DeskNew(d.Now); return wholeDesk(next) })
	})
}

// A desk whose rings are all the same memory is one; those of what becomes of it are not so.
func TestDesksOfOneMemory(t *testing.T) {
	for before := range impl.MaxPast + 1 {
		for _, a := range plainDeeds(4) {
			wantListsApart(t, "DeskDo", func() [][]int {
				ring := bitsIn("1101")
				next, _ := impl.DeskDo(desk(ring, slices.Repeat([][]int{ring}, before)...), a)
				return wholeDesk(next)
			})
		}
		wantListsApart(t, "DeskSay", func() [][]int {
			ring := bitsIn("1101")
			next, _ := impl.DeskSay(desk(ring, slices.Repeat([][]int{ring}, before)...), []string{"row", "free", "back", "row"})
			return wholeDesk(next)
		})
	}
}

// What is done to a desk changes no desk of before, from which it was made, and can be done to that one in another way.
func TestDesksOfBeforeStay(t *testing.T) {
	eachDrawnDesk(1, func(draw *rand.Rand, d impl.Desk) {
		flip, back := deed(impl.DkFlip, 0), deed(impl.DkBack, 0)
		first, _ := impl.DeskDo(d, flip)
		was := desk(slices.Clone(first.Now), copiedRings(first.Past)...)
		undone, _ := impl.DeskDo(first, back)
		for _, a := range plainDeeds(len(d.Now)) {
			impl.DeskDo(undone, a)
			impl.DeskDo(first, a)
			wantDesk(t, first, was, "a desk of before", d, a)
		}
	})
}

// Lists of deeds and of lines are not written to, nor what is behind them in their memory.
func TestListsAreNotWrittenTo(t *testing.T) {
	eachDrawnDesk(1, func(draw *rand.Rand, d impl.Desk) {
		for _, many := range []int{0, 1, 5, impl.MaxLines, impl.MaxLines + 1} {
			deeds := append(drawAnyDeeds(draw, len(d.Now), many), deed(71, 72), deed(73, 74))
			wantDeeds := slices.Clone(deeds)
			impl.DeskRun(d, deeds[:many])
			impl.JournalText(deeds[:many])
			if !slices.Equal(deeds, wantDeeds) {
				t.Errorf("the deeds became %v from %v", deeds, wantDeeds)
			}
			lines := append(drawLines(draw, len(d.Now), many), "behind", "it")
			wantLines := slices.Clone(lines)
			_, answers := impl.DeskSay(d, lines[:many])
			_, again := impl.DeskSay(d, lines[:many])
			want := slices.Clone(again)
			for at := range answers[:cap(answers)] {
				answers[:cap(answers)][at] = "written to"
			}
			if !slices.Equal(lines, wantLines) || !slices.Equal(again, want) {
				t.Errorf("the lines became %q from %q, and the answers %q from %q", lines, wantLines, again, want)
			}
		}
	})
}

func TestJournalsShareNoMemory(t *testing.T) {
	list := drawDeeds(drawer(), impl.MaxBits, 30)
	text := impl.JournalText(list)
	first, _ := impl.ReadJournal(text)
	second, _ := impl.ReadJournal(text)
	for at := range first[:cap(first)] {
		first[:cap(first)][at] = deed(71, 72)
	}
	if !slices.Equal(second, list) {
		t.Errorf("ReadJournal(%q) became %v after the other result was written to", text, second)
	}
}

// What is asked of values that are desks or not changes nothing of them, nor what is behind them in their memory.
func TestAskingChangesNoDesk(t *testing.T) {
	see := func(d impl.Desk) {
		given := withSpare(d)
		before := copiedRings(wholeDesk(given))
		impl.DeskOk(given)
		impl.DeskNew(given.Now)
		impl.RowText(given.Now)
		impl.DeskDo(given, deed(impl.DkFree, 0))
		impl.DeskDo(given, deed(impl.DkBack, 0))
		impl.DeskRun(given, plainDeeds(2))
		impl.DeskLine(given, "flip 0")
		impl.DeskSay(given, []string{"sums", "back", "row"})
		wantUnwritten(t, given, before, "asked about")
	}
	eachDesk(see)
	eachNoDesk(see)
}
