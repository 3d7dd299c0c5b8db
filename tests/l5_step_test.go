package tests

import (
	"math"
	"runtime"
	"slices"
	"strconv"
	"strings"
	"testing"

	"loop.example/g01332/impl"
)

// pacesOf returns the paces of which Every and From are told in turn.
func pacesOf(numbers ...int) []impl.Pace {
	var paces []impl.Pace
	for k := 0; k < len(numbers); k += 2 {
		paces = append(paces, impl.Pace{Every: numbers[k], From: numbers[k+1]})
	}
	return paces
}

func showPaces(paces []impl.Pace) string {
	text := ""
	for _, p := range paces {
		text += " " + strconv.Itoa(p.Every) + "+" + strconv.Itoa(p.From)
	}
	return text
}

func everysOf(paces []impl.Pace) []int {
	var everys []int
	for _, p := range paces {
		everys = append(everys, p.Every)
	}
	return everys
}

// allPaces returns each pace there is with an Every up to so many.
func allPaces(most int) []impl.Pace {
	var all []impl.Pace
	for every := 1; every <= most; every++ {
		for from := range every {
			all = append(all, impl.Pace{Every: every, From: from})
		}
	}
	return all
}

// shortPaces returns each pace alone, and all two and three paces of some small ones.
func shortPaces() [][]impl.Pace {
	var lists [][]impl.Pace
	for _, p := range allPaces(impl.MaxEvery) {
		lists = append(lists, []impl.Pace{p})
	}
	for _, p := range allPaces(6) {
		for _, q := range allPaces(6) {
			lists = append(lists, []impl.Pace{p, q})
		}
	}
	for _, p := range allPaces(3) {
		for _, q := range allPaces(3) {
			for _, r := range allPaces(4) {
				lists = append(lists, []impl.Pace{p, q, r})
			}
		}
	}
	return lists
}

// widePaces returns lists of up to MaxStepping paces whose period can be gone along.
func widePaces() [][]impl.Pace {
	return [][]impl.Pace{
		pacesOf(60, 59, 60, 0), pacesOf(59, 58, 60, 59), pacesOf(60, 0, 60, 0, 60, 0, 60, 0, 60, 0, 60, 0), pacesOf(1, 0, 1, 0, 1, 0, 1, 0, 1, 0, 1, 0),
		pacesOf(7, 3, 11, 10, 13, 0, 2, 1), pacesOf(60, 1, 42, 41, 35, 0, 30, 29, 12, 11, 1, 0), pacesOf(2, 0, 4, 1, 8, 3, 16, 7, 32, 15, 60, 31),
		pacesOf(60, 59, 30, 29, 20, 19, 15, 14, 12, 11, 10, 9), pacesOf(9, 8, 10, 9, 7, 6, 8, 7), pacesOf(5, 1, 5, 2, 5, 3), pacesOf(6, 1, 10, 1, 15, 1),
		pacesOf(6, 1, 10, 3, 15, 7), pacesOf(6, 1, 10, 3, 15, 8), pacesOf(50, 49, 50, 0, 25, 24), pacesOf(6, 0, 6, 1, 6, 2, 6, 3, 6, 4, 6, 5),
	}
}

// longPaces returns lists of paces whose period is greater than MaxTraceable.
func longPaces() [][]impl.Pace {
	return [][]impl.Pace{
		pacesOf(59, 58, 58, 57, 57, 56, 55, 54, 53, 52, 49, 48), pacesOf(60, 0, 59, 0, 57, 1, 53, 52), pacesOf(60, 59, 59, 58, 58, 57, 57, 56, 56, 55, 55, 54),
		pacesOf(51, 50, 37, 3, 53, 12), pacesOf(48, 0, 49, 0, 55, 0), pacesOf(60, 0, 59, 0, 58, 1, 57, 0), pacesOf(47, 1, 53, 1, 59, 1), pacesOf(47, 0, 53, 7, 59, 40, 59, 41),
	}
}

func samplePaces() [][]impl.Pace { return append(widePaces(), shortPaces()...) }

// noPaces returns lists that are no paces.
func noPaces() [][]impl.Pace {
	lists := [][]impl.Pace{nil, {}, slices.Repeat(pacesOf(1, 0), 7), slices.Repeat(pacesOf(60, 59), 7), slices.Repeat(pacesOf(3, 1), 1000)}
	wrong := pacesOf(0, 0, 0, -1, 0, 1, 61, 0, 61, 60, 61, 59, -1, 0, -1, -1, -5, -7, -60, -61, 1, 1, 2, 2, 60, 60, 59, 60, 1, -1, 60, -1, 60, -60)
	for _, number := range []int{math.MinInt, math.MinInt + 1, -1 << 32, 1 << 32, 1<<32 + 1, 1 << 62, math.MaxInt - 1, math.MaxInt} {
		wrong = append(wrong, pacesOf(number, 0, number, 1, number, number, number, number-1, 1, number, 60, number)...)
	}
	for _, p := range wrong {
		good := impl.Pace{Every: 3, From: 1}
		lists = append(lists, []impl.Pace{p}, []impl.Pace{p, good}, []impl.Pace{good, p}, []impl.Pace{good, good, good, good, good, p})
	}
	return lists
}

// noTimes returns numbers that are no times.
func noTimes() []int {
	return []int{-1, -2, -60, 1000000001, 1000000002, 1 << 32, -1 << 32, 1 << 62, math.MinInt, math.MinInt + 1, math.MaxInt - 1, math.MaxInt}
}

// plainWalk lets each soldier step, and returns who steps at each of so many times.
func plainWalk(paces []impl.Pace, times int) [][]int {
	walk := make([][]int, times)
	for k, p := range paces {
		for time := p.From; time < times; time += p.Every {
			walk[time] = append(walk[time], k)
		}
	}
	return walk
}

func checkPaces(t *testing.T, what string, got []impl.Pace, ok bool, want []impl.Pace) {
	t.Helper()
	if !ok || !slices.Equal(got, want) {
		t.Errorf("%s:%s, %v, not%s", what, showPaces(got), ok, showPaces(want))
	}
}

func checkNoPaces(t *testing.T, what string, got []impl.Pace, ok bool) {
	t.Helper()
	if ok || len(got) > 0 {
		t.Errorf("%s:%s, %v, but it fails", what, showPaces(got), ok)
	}
}

func TestStepConstants(t *testing.T) {
	if impl.MaxStepping != 6 || impl.MaxEvery != 60 || impl.MaxTraceable != 100000 {
		t.Error("limits", impl.MaxStepping, impl.MaxEvery, impl.MaxTraceable)
	}
}

func TestStepExample(t *testing.T) {
	paces := pacesOf(2, 0, 3, 1)
	s, ok := impl.BeatsOf(paces, 8)
	checkText(t, "beats", s, ok, "11102011")
	n, ok := impl.FirstTogether(paces)
	checkInt(t, "together", n, ok, 4)
	n, ok = impl.PeriodOf(paces)
	checkInt(t, "period", n, ok, 6)
	for many, want := range []int{2, 3, 1} {
		n, ok = impl.CountAtOnce(paces, many)
		checkInt(t, "at once", n, ok, want)
	}
	n, ok = impl.LongestSilence(paces)
	checkInt(t, "silence", n, ok, 1)
	pairs, ok := impl.NeverTogether(pacesOf(2, 0, 4, 1))
	checkPairs(t, "never", pairs, ok, [][]int{{0, 1}})
	n, ok = impl.TimeOfStep(paces, 4)
	checkInt(t, "time of step", n, ok, 4)
	p, ok := impl.PaceOfBeats("01001")
	checkPaces(t, "pace", []impl.Pace{p}, ok, pacesOf(3, 1))
}

func TestArePaces(t *testing.T) {
	for _, paces := range append(samplePaces(), longPaces()...) {
		if !impl.ArePaces(paces) {
			t.Error("paces", paces)
		}
	}
	for _, paces := range noPaces() {
		if impl.ArePaces(paces) {
			t.Error("no paces", paces)
		}
	}
	for every := -2; every <= 63; every++ {
		for from := -2; from <= 63; from++ {
			want := slices.Contains(allPaces(60), impl.Pace{Every: every, From: from})
			if impl.ArePaces(pacesOf(every, from)) != want || impl.ArePaces(pacesOf(60, 59, every, from)) != want {
				t.Error("every", every, "from", from)
			}
		}
	}
	for count := range 10 {
		if impl.ArePaces(slices.Repeat(pacesOf(5, 4), count)) != (count >= 1 && count <= 6) {
			t.Error(count, "paces")
		}
	}
}

func TestSteppingAt(t *testing.T) {
	for _, paces := range append(samplePaces(), longPaces()...) {
		for time, want := range plainWalk(paces, 150) {
			who, ok := impl.SteppingAt(paces, time)
			checkList(t, "SteppingAt"+showPaces(paces)+showList([]int{time}), who, ok, want)
		}
	}
	late := pacesOf(1, 0, 60, 40, 60, 39, 7, 6, 59, 11, 32, 0)
	who, ok := impl.SteppingAt(late, 1000000000)
	checkList(t, "the last time", who, ok, []int{0, 1, 3, 5})
	who, ok = impl.SteppingAt(late, 999999999)
	checkList(t, "the time before", who, ok, []int{0, 2})
	who, ok = impl.SteppingAt(pacesOf(60, 39), 1000000000)
	checkList(t, "nobody at the last time", who, ok, nil)
	for _, time := range noTimes() {
		for _, paces := range append(widePaces(), longPaces()...) {
			who, ok := impl.SteppingAt(paces, time)
			checkFails(t, "SteppingAt"+showList([]int{time}), ok, who...)
			if len(who) > 0 {
				t.Error("SteppingAt", time, who)
			}
		}
	}
}

// Promise 5: all step together first when it is told.
func TestFirstTogether(t *testing.T) {
	for _, paces := range samplePaces() {
		what := "FirstTogether" + showPaces(paces)
		first := slices.IndexFunc(plainWalk(paces, plainStep(everysOf(paces))), func(who []int) bool { return len(who) == len(paces) })
		n, ok := impl.FirstTogether(paces)
		if first < 0 {
			checkFails(t, what, ok, n)
			continue
		}
		checkInt(t, what, n, ok, first)
	}
}

func TestFirstTogetherFarAway(t *testing.T) {
	for _, paces := range longPaces() {
		what := "FirstTogether" + showPaces(paces)
		n, ok := impl.FirstTogether(paces)
		var froms []int
		for _, p := range paces {
			froms = append(froms, p.From)
		}
		if !agree(everysOf(paces), froms) {
			checkFails(t, what, ok, n)
			continue
		}
		// All step together just once in a period, so it is the first time if it is in the first period.
		if !ok || n < 0 || n >= plainStep(everysOf(paces)) || !leaves(n, everysOf(paces), froms) {
			t.Error(what, n, ok)
		}
	}
	n, ok := impl.FirstTogether(longPaces()[0])
	checkInt(t, "at the end of the greatest period", n, ok, 27860538089)
	n, ok = impl.FirstTogether(pacesOf(60, 59, 59, 58, 58, 57, 57, 56, 56, 55, 55, 54))
	checkInt(t, "at the end of a period", n, ok, plainStep([]int{60, 59, 58, 57, 56, 55})-1)
	n, ok = impl.FirstTogether(pacesOf(60, 59))
	checkInt(t, "one pace", n, ok, 59)
	n, ok = impl.FirstTogether(pacesOf(1, 0))
	checkInt(t, "each time", n, ok, 0)
	n, ok = impl.FirstTogether(pacesOf(60, 7, 60, 7, 60, 7, 60, 7, 60, 7, 60, 7))
	checkInt(t, "paces that are alike", n, ok, 7)
	n, ok = impl.FirstTogether(pacesOf(60, 7, 60, 7, 60, 7, 60, 7, 60, 7, 60, 8))
	checkFails(t, "one out of step", ok, n)
	n, ok = impl.FirstTogether(pacesOf(2, 0, 4, 1))
	checkFails(t, "never", ok, n)
}

func TestPeriodIsLeast(t *testing.T) {
	isPeriod := func(walk [][]int, n int) bool {
		for time := range len(walk) - n {
			if !slices.Equal(walk[time], walk[time+n]) {
				return false
			}
		}
		return true
	}
	for _, paces := range append(shortPaces(), pacesOf(6, 1, 10, 1, 15, 1), pacesOf(60, 1, 12, 11, 1, 0), pacesOf(6, 0, 6, 1, 6, 2, 6, 3, 6, 4, 6, 5)) {
		walk := plainWalk(paces, 3*60)
		n := 1
		for !isPeriod(walk, n) {
			n++
		}
		period, ok := impl.PeriodOf(paces)
		checkInt(t, "PeriodOf"+showPaces(paces), period, ok, n)
	}
}

func TestPeriodsOfAllSizes(t *testing.T) {
	for _, paces := range append(samplePaces(), longPaces()...) {
		n, ok := impl.PeriodOf(paces)
		checkInt(t, "PeriodOf"+showPaces(paces), n, ok, plainStep(everysOf(paces)))
	}
	n, ok := impl.PeriodOf(longPaces()[0])
	checkInt(t, "the greatest period", n, ok, 27860538090)
	n, ok = impl.PeriodOf(pacesOf(3, 0, 25, 0, 31, 0, 43, 0))
	checkInt(t, "nearest to MaxTraceable", n, ok, 99975)
	n, ok = impl.PeriodOf(pacesOf(51, 0, 37, 0, 53, 0))
	checkInt(t, "nearest above", n, ok, 100011)
}

func TestAtOnce(t *testing.T) {
	for _, paces := range samplePaces() {
		what := showPaces(paces)
		counts := make([]int, len(paces)+1)
		most, first := 0, 0
		for time, who := range plainWalk(paces, plainStep(everysOf(paces))) {
			counts[len(who)]++
			if len(who) > most {
				most, first = len(who), time
			}
		}
		for many, want := range counts {
			n, ok := impl.CountAtOnce(paces, many)
			checkInt(t, "CountAtOnce"+what+showList([]int{many}), n, ok, want)
		}
		n, time, ok := impl.MostAtOnce(paces)
		checkTwo(t, "MostAtOnce"+what, n, time, ok, most, first)
	}
	n, time, ok := impl.MostAtOnce(pacesOf(60, 59))
	checkTwo(t, "the last time of a period", n, time, ok, 1, 59)
	n, time, ok = impl.MostAtOnce(pacesOf(4, 3, 4, 1, 4, 3, 4, 1))
	checkTwo(t, "the first one of two such times", n, time, ok, 2, 1)
}

func TestManyAtOnceLimits(t *testing.T) {
	for _, paces := range [][]impl.Pace{pacesOf(1, 0), pacesOf(2, 0, 3, 1), slices.Repeat(pacesOf(60, 59), 6), pacesOf(51, 50, 37, 3, 53, 12)} {
		for _, many := range append(noTimes(), len(paces)+1, len(paces)+2, 7, 61) {
			n, ok := impl.CountAtOnce(paces, many)
			checkFails(t, "CountAtOnce"+showPaces(paces)+showList([]int{many}), ok, n)
		}
	}
	n, ok := impl.CountAtOnce(slices.Repeat(pacesOf(60, 59), 6), 6)
	checkInt(t, "all at once", n, ok, 1)
	n, ok = impl.CountAtOnce(slices.Repeat(pacesOf(60, 59), 6), 0)
	checkInt(t, "nobody", n, ok, 59)
	n, ok = impl.CountAtOnce(pacesOf(1, 0), 0)
	checkInt(t, "never nobody", n, ok, 0)
}

// plainSilence tells the longest silence by the gaps between times with steps in three periods.
func plainSilence(paces []impl.Pace) int {
	longest, last := 0, -1
	for time, who := range plainWalk(paces, 3*plainStep(everysOf(paces))) {
		if len(who) > 0 {
			if last >= 0 {
				longest = max(longest, time-last-1)
			}
			last = time
		}
	}
	return longest
}

func TestLongestSilence(t *testing.T) {
	for _, paces := range samplePaces() {
		n, ok := impl.LongestSilence(paces)
		checkInt(t, "LongestSilence"+showPaces(paces), n, ok, plainSilence(paces))
	}
	known := []struct {
		paces []impl.Pace
		want  int
	}{
		{pacesOf(1, 0), 0}, {pacesOf(2, 0), 1}, {pacesOf(60, 0), 59}, {pacesOf(60, 59), 59}, {pacesOf(60, 30), 59}, {pacesOf(60, 0, 60, 59), 58}, {pacesOf(60, 20, 60, 30), 49},
		{pacesOf(2, 0, 2, 1), 0}, {pacesOf(5, 2, 5, 2), 4}, {pacesOf(4, 1, 8, 3), 3}, {pacesOf(3, 0, 60, 1), 2}, {pacesOf(60, 30, 1, 0), 0},
	}
	for _, k := range known {
		n, ok := impl.LongestSilence(k.paces)
		checkInt(t, "LongestSilence"+showPaces(k.paces), n, ok, k.want)
	}
}

// No period is just MaxTraceable; these are the nearest ones.
func TestMaxTraceable(t *testing.T) {
	below := pacesOf(3, 2, 25, 24, 31, 30, 43, 42)
	walk := plainWalk(below, 99975)
	for many := range 5 {
		want := 0
		for _, who := range walk {
			if len(who) == many {
				want++
			}
		}
		n, ok := impl.CountAtOnce(below, many)
		checkInt(t, "CountAtOnce", n, ok, want)
	}
	n, time, ok := impl.MostAtOnce(below)
	checkTwo(t, "MostAtOnce", n, time, ok, 4, 99974)
	n, ok = impl.LongestSilence(below)
	checkInt(t, "LongestSilence", n, ok, plainSilence(below))
	for _, paces := range longPaces() {
		what := showPaces(paces)
		for many := range len(paces) + 2 {
			n, ok := impl.CountAtOnce(paces, many)
			checkFails(t, "CountAtOnce"+what, ok, n)
		}
		n, time, ok := impl.MostAtOnce(paces)
		checkFails(t, "MostAtOnce"+what, ok, n, time)
		n, ok = impl.LongestSilence(paces)
		checkFails(t, "LongestSilence"+what, ok, n)
	}
}

func TestStepsIn(t *testing.T) {
	for _, paces := range append(samplePaces(), longPaces()...) {
		walk := plainWalk(paces, 130)
		for _, from := range []int{0, 1, 2, 5, 59, 60, 61, 119} {
			steps := 0
			for to := from; to < 130; to++ {
				n, ok := impl.StepsIn(paces, from, to)
				checkInt(t, "StepsIn"+showPaces(paces)+showList([]int{from, to}), n, ok, steps)
				steps += len(walk[to])
			}
		}
	}
}

func TestSpanLimits(t *testing.T) {
	known := []struct {
		paces    []impl.Pace
		from, to int
		want     int
	}{
		{pacesOf(1, 0), 0, 1000000000, 1000000000}, {slices.Repeat(pacesOf(1, 0), 6), 0, 1000000000, 6000000000}, {pacesOf(60, 40), 0, 1000000000, 16666666},
		{pacesOf(60, 39), 0, 1000000000, 16666667}, {pacesOf(60, 39), 999999999, 1000000000, 1}, {pacesOf(60, 40), 999999999, 1000000000, 0},
		{pacesOf(60, 59), 0, 59, 0}, {pacesOf(60, 59), 0, 60, 1}, {pacesOf(60, 59), 59, 60, 1}, {pacesOf(60, 59), 60, 119, 0},
	}
	for _, k := range known {
		n, ok := impl.StepsIn(k.paces, k.from, k.to)
		checkInt(t, "StepsIn"+showPaces(k.paces)+showList([]int{k.from, k.to}), n, ok, k.want)
	}
	for _, paces := range append(widePaces(), longPaces()...) {
		for _, time := range []int{0, 1, 59, 60, 999999999, 1000000000} {
			n, ok := impl.StepsIn(paces, time, time)
			checkInt(t, "a span of no time", n, ok, 0)
		}
		for _, span := range [][]int{{1, 0}, {60, 59}, {1000000000, 999999999}, {1000000000, 0}} {
			n, ok := impl.StepsIn(paces, span[0], span[1])
			checkFails(t, "StepsIn"+showPaces(paces)+showList(span), ok, n)
		}
		for _, no := range noTimes() {
			for _, time := range []int{0, 60, 1000000000, no} {
				n, ok := impl.StepsIn(paces, time, no)
				checkFails(t, "StepsIn"+showList([]int{time, no}), ok, n)
				n, ok = impl.StepsIn(paces, no, time)
				checkFails(t, "StepsIn"+showList([]int{no, time}), ok, n)
			}
		}
	}
}

func TestTimeOfStep(t *testing.T) {
	for _, paces := range append(samplePaces(), longPaces()...) {
		k := 0
		for time, who := range plainWalk(paces, 200) {
			for range who {
				n, ok := impl.TimeOfStep(paces, k)
				checkInt(t, "TimeOfStep"+showPaces(paces)+showList([]int{k}), n, ok, time)
				k++
			}
		}
	}
}

func TestLastTimesOfSteps(t *testing.T) {
	known := []struct {
		paces []impl.Pace
		want  int
	}{
		{pacesOf(1, 0), 1000000}, {pacesOf(60, 0), 60000000}, {pacesOf(60, 59), 60000059}, {slices.Repeat(pacesOf(1, 0), 6), 166666},
		{slices.Repeat(pacesOf(60, 59), 6), 166666*60 + 59}, {pacesOf(2, 0, 2, 1), 1000000}, {pacesOf(60, 59, 60, 58), 30000058},
	}
	for _, k := range known {
		n, ok := impl.TimeOfStep(k.paces, 1000000)
		checkInt(t, "TimeOfStep"+showPaces(k.paces), n, ok, k.want)
	}
	for _, paces := range append(widePaces(), longPaces()...) {
		for _, k := range []int{0, 1, 5, 6, 1000, 999999, 1000000} {
			n, ok := impl.TimeOfStep(paces, k)
			before, _ := impl.StepsIn(paces, 0, n)
			with, _ := impl.StepsIn(paces, 0, n+1)
			if !ok || before > k || with <= k {
				t.Error("TimeOfStep", paces, k, n, ok, "but before are", before, "and with it", with)
			}
		}
		for _, k := range append(noTimes(), 1000001, 1000002, 1000000000) {
			n, ok := impl.TimeOfStep(paces, k)
			checkFails(t, "TimeOfStep"+showList([]int{k}), ok, n)
		}
	}
}

func TestNeverTogether(t *testing.T) {
	for _, paces := range append(samplePaces(), longPaces()...) {
		var want [][]int
		for k := range paces {
			for j := k + 1; j < len(paces); j++ {
				two := []impl.Pace{paces[k], paces[j]}
				if !slices.ContainsFunc(plainWalk(two, plainStep(everysOf(two))), func(who []int) bool { return len(who) == 2 }) {
					want = append(want, []int{k, j})
				}
			}
		}
		pairs, ok := impl.NeverTogether(paces)
		checkPairs(t, "NeverTogether"+showPaces(paces), pairs, ok, want)
	}
	pairs, ok := impl.NeverTogether(pacesOf(4, 0, 2, 1, 4, 2, 1, 0))
	checkPairs(t, "some pairs", pairs, ok, [][]int{{0, 1}, {0, 2}, {1, 2}})
	pairs, ok = impl.NeverTogether(pacesOf(6, 1, 10, 3, 15, 8))
	checkPairs(t, "two of three", pairs, ok, [][]int{{0, 2}})
	pairs, ok = impl.NeverTogether(pacesOf(6, 1, 10, 1, 15, 1))
	checkPairs(t, "all meet", pairs, ok, nil)
	pairs, ok = impl.NeverTogether(pacesOf(60, 59))
	checkPairs(t, "one pace", pairs, ok, nil)
	pairs, ok = impl.NeverTogether(pacesOf(60, 59, 60, 59))
	checkPairs(t, "paces that are alike", pairs, ok, nil)
	pairs, ok = impl.NeverTogether(pacesOf(60, 0, 60, 1, 60, 2, 60, 3, 60, 4, 60, 5))
	if !ok || len(pairs) != 15 {
		t.Error("all pairs", pairs, ok)
	}
}

func TestShiftPaces(t *testing.T) {
	for _, paces := range append(samplePaces(), longPaces()...) {
		walk := plainWalk(paces, 250)
		for _, by := range []int{0, 1, 2, 3, 5, 59, 60, 61, 100, 120} {
			what := "ShiftPaces" + showPaces(paces) + showList([]int{by})
			shifted, ok := impl.ShiftPaces(paces, by)
			if !ok || !impl.ArePaces(shifted) || !slices.Equal(everysOf(shifted), everysOf(paces)) {
				t.Fatal(what, shifted, ok)
			}
			checkPairs(t, what, plainWalk(shifted, 130), true, walk[by:by+130])
		}
	}
	known := []struct {
		from impl.Pace
		by   int
		want impl.Pace
	}{
		{impl.Pace{Every: 5, From: 3}, 0, impl.Pace{Every: 5, From: 3}}, {impl.Pace{Every: 5, From: 3}, 3, impl.Pace{Every: 5, From: 0}}, {impl.Pace{Every: 5, From: 3}, 4, impl.Pace{Every: 5, From: 4}},
		{impl.Pace{Every: 5, From: 3}, 5, impl.Pace{Every: 5, From: 3}}, {impl.Pace{Every: 5, From: 3}, 13, impl.Pace{Every: 5, From: 0}}, {impl.Pace{Every: 1, From: 0}, 1000000000, impl.Pace{Every: 1, From: 0}},
		{impl.Pace{Every: 60, From: 40}, 1000000000, impl.Pace{Every: 60, From: 0}}, {impl.Pace{Every: 60, From: 39}, 1000000000, impl.Pace{Every: 60, From: 59}},
	}
	for _, k := range known {
		shifted, ok := impl.ShiftPaces([]impl.Pace{k.from}, k.by)
		checkPaces(t, "ShiftPaces", shifted, ok, []impl.Pace{k.want})
	}
	for _, by := range noTimes() {
		shifted, ok := impl.ShiftPaces(pacesOf(2, 0, 3, 1), by)
		checkNoPaces(t, "ShiftPaces"+showList([]int{by}), shifted, ok)
	}
}

// plainBeats tells how many step at each of so many times.
func plainBeats(paces []impl.Pace, times int) string {
	text := ""
	for _, who := range plainWalk(paces, times) {
		text += strconv.Itoa(len(who))
	}
	return text
}

func TestBeatsOf(t *testing.T) {
	for _, paces := range append(samplePaces(), longPaces()...) {
		want := plainBeats(paces, 200)
		for _, times := range []int{0, 1, 2, 7, 60, 199, 200} {
			s, ok := impl.BeatsOf(paces, times)
			checkText(t, "BeatsOf"+showPaces(paces), s, ok, want[:times])
		}
	}
	s, ok := impl.BeatsOf(slices.Repeat(pacesOf(1, 0), 6), 200)
	checkText(t, "all at all times", s, ok, strings.Repeat("6", 200))
	s, ok = impl.BeatsOf(pacesOf(60, 59), 61)
	checkText(t, "one beat", s, ok, strings.Repeat("0", 59)+"10")
	for _, times := range append(noTimes(), 201, 202, 1000) {
		s, ok := impl.BeatsOf(pacesOf(2, 0, 3, 1), times)
		checkNoText(t, "BeatsOf"+showList([]int{times}), s, ok)
	}
}

// beatsOfAll returns the 200 beats of each pace, those with lesser Every first.
func beatsOfAll() (paces []impl.Pace, beats []string) {
	for _, p := range allPaces(impl.MaxEvery) {
		paces = append(paces, p)
		beats = append(beats, plainBeats([]impl.Pace{p}, 200))
	}
	return paces, beats
}

// Promise 5: beats are read back.
func TestBeatsAreReadBack(t *testing.T) {
	paces, all := beatsOfAll()
	for k, beats := range all {
		for _, times := range []int{1, 2, 3, 30, 58, 59, 60, 61, 100, 119, 120, 121, 199, 200} {
			want := slices.IndexFunc(all, func(other string) bool { return strings.HasPrefix(other, beats[:times]) })
			p, ok := impl.PaceOfBeats(beats[:times])
			checkPaces(t, "PaceOfBeats "+beats[:times], []impl.Pace{p}, ok, paces[want:want+1])
			s, ok := impl.BeatsOf([]impl.Pace{p}, times)
			checkText(t, "read back", s, ok, beats[:times])
		}
		p, ok := impl.PaceOfBeats(beats)
		checkPaces(t, "as many beats as there can be", []impl.Pace{p}, ok, paces[k:k+1])
	}
}

func TestPaceOfAllShortBeats(t *testing.T) {
	paces, all := beatsOfAll()
	for length := 1; length <= 10; length++ {
		for _, beats := range textsOf("01", length) {
			want := slices.IndexFunc(all, func(other string) bool { return strings.HasPrefix(other, beats) })
			p, ok := impl.PaceOfBeats(beats)
			if want < 0 {
				checkNoPace(t, beats, p, ok)
				continue
			}
			checkPaces(t, "PaceOfBeats "+beats, []impl.Pace{p}, ok, paces[want:want+1])
		}
	}
}

func checkNoPace(t *testing.T, beats string, p impl.Pace, ok bool) {
	t.Helper()
	if ok || p != (impl.Pace{}) {
		t.Errorf("PaceOfBeats %q: %v, %v, but it fails", beats, p, ok)
	}
}

func TestKnownBeats(t *testing.T) {
	zeros := strings.Repeat("0", 200)
	known := map[string]impl.Pace{
		"0": {Every: 2, From: 1}, "1": {Every: 1, From: 0}, "00": {Every: 3, From: 2}, "10": {Every: 2, From: 0}, "01": {Every: 2, From: 1}, "11": {Every: 1, From: 0},
		"0100": {Every: 3, From: 1}, "0010": {Every: 3, From: 2}, "01000": {Every: 4, From: 1}, "00010": {Every: 4, From: 3}, zeros[:58]: {Every: 59, From: 58}, zeros[:59]: {Every: 60, From: 59},
		zeros[:59] + "1": {Every: 60, From: 59}, "1" + zeros[:59]: {Every: 60, From: 0}, zeros[:59] + "1" + zeros[:59]: {Every: 60, From: 59}, "1" + zeros[:59] + "1": {Every: 60, From: 0},
		strings.Repeat("1", 200): {Every: 1, From: 0}, strings.Repeat("01", 100): {Every: 2, From: 1}, zeros[:30] + "1" + zeros[:29]: {Every: 31, From: 30}, zeros[:29] + "1" + zeros[:30]: {Every: 31, From: 29},
	}
	for beats, want := range known {
		p, ok := impl.PaceOfBeats(beats)
		checkPaces(t, "PaceOfBeats "+beats, []impl.Pace{p}, ok, []impl.Pace{want})
	}
	for _, beats := range []string{
		"110", "011", "1101", "0110", "1011", "10100", "001001000", zeros, zeros[:60], zeros[:61], zeros[:60] + "1", "1" + zeros[:60], "1" + zeros[:60] + "1", zeros[:59] + "1" + zeros[:60],
		zeros[:199] + "1", "1" + zeros[:199], strings.Repeat("1", 199) + "0", "0" + strings.Repeat("1", 199), strings.Repeat("10", 99) + "11", strings.Repeat("10", 99) + "00",
	} {
		p, ok := impl.PaceOfBeats(beats)
		checkNoPace(t, beats, p, ok)
	}
}

// noBeats returns texts that are no beats of one soldier.
func noBeats() []string {
	return []string{
		"", " ", "2", "12", "02", "1 0", " 1", "1 ", "10\n", "1\x00", "\x00", "\x01", "/", "1/", "-1", "+1", "a", "<>", "\xff", "1\xff", "\xb0", "\xb1", "é", "０", "١", "10é01", "1\u0130", "\u0131", "\xef\xbf\xbd",
		strings.Repeat("1", 201), strings.Repeat("10", 101), "0" + strings.Repeat("10", 100), strings.Repeat("0", 201), strings.Repeat("1", 100000), strings.Repeat("1", 199) + "2", "2" + strings.Repeat("1", 199), "1,1",
	}
}

func TestTextsThatAreNoBeats(t *testing.T) {
	for _, text := range noBeats() {
		p, ok := impl.PaceOfBeats(text)
		checkNoPace(t, text, p, ok)
	}
	for code := range 256 {
		text := string([]byte{byte(code)})
		if _, ok := impl.PaceOfBeats("1" + text + "1"); ok != (text == "0" || text == "1") {
			t.Errorf("%q between beats", text)
		}
	}
}

func TestAddAndDropPace(t *testing.T) {
	for _, paces := range append(samplePaces(), longPaces()...) {
		for _, p := range pacesOf(1, 0, 60, 59, 7, 3) {
			more, ok := impl.AddPace(paces, p)
			if len(paces) == 6 {
				checkNoPaces(t, "AddPace to"+showPaces(paces), more, ok)
				continue
			}
			checkPaces(t, "AddPace to"+showPaces(paces), more, ok, append(slices.Clone(paces), p))
			less, ok := impl.DropPace(more, len(paces))
			checkPaces(t, "put and taken out", less, ok, paces)
		}
		for k := range paces {
			less, ok := impl.DropPace(paces, k)
			if len(paces) == 1 {
				checkNoPaces(t, "DropPace out of one", less, ok)
				continue
			}
			checkPaces(t, "DropPace"+showPaces(paces)+showList([]int{k}), less, ok, append(slices.Clone(paces[:k]), paces[k+1:]...))
		}
		for _, k := range append(noTimes(), len(paces), len(paces)+1, 6, 1000000000) {
			less, ok := impl.DropPace(paces, k)
			checkNoPaces(t, "DropPace"+showPaces(paces)+showList([]int{k}), less, ok)
		}
	}
}

func TestPacesThatAreNotAdded(t *testing.T) {
	wrong := pacesOf(0, 0, 1, 1, 60, 60, 61, 0, 61, 60, -1, 0, 1, -1, math.MinInt, 0, math.MaxInt, 0, 1, math.MinInt, 60, math.MaxInt, math.MinInt, math.MinInt, math.MaxInt, math.MaxInt-1)
	for _, p := range wrong {
		for count := range 8 {
			more, ok := impl.AddPace(slices.Repeat(pacesOf(5, 4), count), p)
			checkNoPaces(t, "AddPace"+showPaces([]impl.Pace{p}), more, ok)
		}
	}
	more, ok := impl.AddPace(slices.Repeat(pacesOf(5, 4), 5), impl.Pace{Every: 60, From: 59})
	checkPaces(t, "the last one there can be", more, ok, pacesOf(5, 4, 5, 4, 5, 4, 5, 4, 5, 4, 60, 59))
	more, ok = impl.AddPace(more, impl.Pace{Every: 60, From: 59})
	checkNoPaces(t, "one more", more, ok)
}

func TestPacesTexts(t *testing.T) {
	for _, paces := range append(samplePaces(), longPaces()...) {
		want := strings.ReplaceAll(strings.TrimSpace(showPaces(paces)), " ", ",")
		s, ok := impl.PacesText(paces)
		checkText(t, "PacesText"+showPaces(paces), s, ok, want)
		back, ok := impl.ParsePaces(want)
		checkPaces(t, "ParsePaces "+want, back, ok, paces)
	}
	s, ok := impl.PacesText(pacesOf(60, 59, 1, 0, 10, 9, 60, 0, 2, 1, 1, 0))
	checkText(t, "PacesText", s, ok, "60+59,1+0,10+9,60+0,2+1,1+0")
	paces, ok := impl.ParsePaces("60+59,1+0,10+9,60+0,2+1,1+0")
	checkPaces(t, "ParsePaces", paces, ok, pacesOf(60, 59, 1, 0, 10, 9, 60, 0, 2, 1, 1, 0))
}

// noPacesTexts returns texts that are no PacesTexts.
func noPacesTexts() []string {
	texts := []string{
		"", " ", ",", "+", "0", "5", "5+", "+5", "5+4+", "+5+4", "5+4+3", "5++4", "5,4", "5-4", "5+-0", "5+-4", "-5+4", "5+4,", ",5+4", "5+4,,3+1", ",,", "5+4,3", "5+4,3+", "5+4,+1", "5+4;3+1",
		"05+4", "5+04", "5+00", "00005+4", "++5+4", "5+ 4", "5 +4", " 5+4", "5+4 ", "5+4, 3+1", "5+4 ,3+1", "5+4\n", "5+4\x00", "\x005+4", "5.0+4", "5e0+4", "0x5+4", "5_0+4", "1_0+4", "five+4", "5+x", "x+4",
		"0+0", "1+1", "5+5", "60+60", "61+0", "61+60", "100+1", "2+0,2+2", "2+2,2+0", "-0+0", "1+-0", "1+ 0", "1+", "1+,", "2+0,3+1 8",
		"5+4\xff", "\xff5+4", "5\xff+4", "５+４", "5＋4", "5+4，3+1", "٥+٤", "5+é", "é", "5+4,é", "\xef\xbf\xbd",
		strings.Repeat("1+0,", 6) + "1+0", strings.Repeat("1+0,", 6), strings.Repeat("1+0,", 5), strings.Repeat("60+59,", 1000) + "60+59", strings.Repeat(",", 100000), strings.Repeat("1", 100000) + "+0", strings.Repeat("+", 100000),
	}
	for _, number := range []string{"9223372036854775807", "9223372036854775808", "-9223372036854775808", "-9223372036854775809", "18446744073709551616", "18446744073709551617", "18446744073709551621", "4294967301", "100000000000000000000000000000000000005"} {
		texts = append(texts, number+"+4", "5+"+number, number+"+"+number, "5+4,"+number+"+0", "5+4,5+"+number)
	}
	return texts
}

func TestTextsThatAreNoPaces(t *testing.T) {
	for _, text := range noPacesTexts() {
		paces, ok := impl.ParsePaces(text)
		checkNoPaces(t, "ParsePaces "+strconv.Quote(text), paces, ok)
	}
	// One byte more at any place of a text does not give another form of the same paces.
	for at := range len("12+3,5+4") + 1 {
		for code := range 256 {
			text := "12+3,5+4"[:at] + string([]byte{byte(code)}) + "12+3,5+4"[at:]
			paces, ok := impl.ParsePaces(text)
			if !ok {
				checkNoPaces(t, "ParsePaces "+strconv.Quote(text), paces, ok)
				continue
			}
			s, ok := impl.PacesText(paces)
			checkText(t, "read back", s, ok, text)
		}
	}
}

// answersOfPaces calls every function of paces, and tells by name which of them succeed and which return more than zero values.
func answersOfPaces(paces []impl.Pace) (succeed, nonzero []string) {
	note := func(name string, isZero bool, ok bool) {
		if ok {
			succeed = append(succeed, name)
		}
		if !isZero {
			nonzero = append(nonzero, name)
		}
	}
	who, ok := impl.SteppingAt(paces, 4)
	note("SteppingAt", len(who) == 0, ok)
	n, ok := impl.FirstTogether(paces)
	note("FirstTogether", n == 0, ok)
	n, ok = impl.PeriodOf(paces)
	note("PeriodOf", n == 0, ok)
	n, ok = impl.CountAtOnce(paces, 0)
	note("CountAtOnce", n == 0, ok)
	n, time, ok := impl.MostAtOnce(paces)
	note("MostAtOnce", n == 0 && time == 0, ok)
	n, ok = impl.LongestSilence(paces)
	note("LongestSilence", n == 0, ok)
	n, ok = impl.StepsIn(paces, 0, 60)
	note("StepsIn", n == 0, ok)
	n, ok = impl.TimeOfStep(paces, 8)
	note("TimeOfStep", n == 0, ok)
	pairs, ok := impl.NeverTogether(paces)
	note("NeverTogether", len(pairs) == 0, ok)
	shifted, ok := impl.ShiftPaces(paces, 3)
	note("ShiftPaces", len(shifted) == 0, ok)
	s, ok := impl.BeatsOf(paces, 8)
	note("BeatsOf", s == "", ok)
	more, ok := impl.AddPace(paces, impl.Pace{Every: 7, From: 5})
	note("AddPace", len(more) == 0, ok)
	less, ok := impl.DropPace(paces, 0)
	note("DropPace", len(less) == 0, ok)
	s, ok = impl.PacesText(paces)
	note("PacesText", s == "", ok)
	return succeed, nonzero
}

// Promise 11: lists that are no paces make every function fail, with zero values.
func TestListsThatAreNoPaces(t *testing.T) {
	for _, paces := range noPaces() {
		if succeed, nonzero := answersOfPaces(paces); len(succeed)+len(nonzero) > 0 {
			t.Error(paces, succeed, nonzero)
		}
		s, ok := impl.BeatsOf(paces, 0)
		checkNoText(t, "BeatsOf", s, ok)
		n, ok := impl.StepsIn(paces, 0, 0)
		checkFails(t, "StepsIn", ok, n)
		less, ok := impl.DropPace(paces, len(paces)-1)
		checkNoPaces(t, "one less does not make paces of"+showPaces(paces), less, ok)
	}
}

// Promise 11: arguments are not modified, nor is what lies behind their length.
func TestPacesAreNotModified(t *testing.T) {
	room := pacesOf(2, 0, 3, 1, 4, 3, 60, 60, 0, -1, 5, 4)
	want := slices.Clone(room)
	// Not all three step together, so FirstTogether fails.
	if succeed, _ := answersOfPaces(room[:3]); len(succeed) != 13 || slices.Contains(succeed, "FirstTogether") {
		t.Error("succeed", succeed)
	}
	if succeed, _ := answersOfPaces(room[:2]); len(succeed) != 14 {
		t.Error("succeed", succeed)
	}
	answersOfPaces(room)
	for k := range 4 {
		impl.DropPace(room[:3], k)
		impl.ShiftPaces(room[:3], k)
		impl.NeverTogether(room[:k])
	}
	if !slices.Equal(room, want) {
		t.Error("modified", room)
	}
}

// Promise 11: results are new memory.
func TestStepResultsAreNew(t *testing.T) {
	paces := pacesOf(4, 0, 4, 0, 4, 1, 2, 1)
	results := func() [][]impl.Pace {
		a, _ := impl.ShiftPaces(paces, 0)
		b, _ := impl.AddPace(paces, impl.Pace{Every: 7, From: 5})
		c, _ := impl.DropPace(paces, 3)
		d, _ := impl.ParsePaces("4+0,4+0,4+1,2+1")
		return [][]impl.Pace{a, b, c, d}
	}
	var want [][]impl.Pace
	for _, result := range results() {
		want = append(want, slices.Clone(result))
		clear(result[:cap(result)])
	}
	for k, result := range results() {
		checkPaces(t, "again", result, true, want[k])
	}
	checkPaces(t, "the argument", paces, true, pacesOf(4, 0, 4, 0, 4, 1, 2, 1))
}

// Promise 11: no two lists of one result share memory.
func TestListsOfStepsAreNew(t *testing.T) {
	paces := pacesOf(4, 0, 4, 0, 4, 1, 2, 1)
	want := [][]int{{0, 2}, {0, 3}, {1, 2}, {1, 3}}
	for k := range want {
		pairs, ok := impl.NeverTogether(paces)
		checkPairs(t, "NeverTogether", pairs, ok, want)
		clear(pairs[k][:cap(pairs[k])])
		checkPairs(t, "those before", pairs[:k], ok, want[:k])
		checkPairs(t, "those behind", pairs[k+1:], ok, want[k+1:])
		clear(pairs[:cap(pairs)])
		who, ok := impl.SteppingAt(paces, 5)
		checkList(t, "SteppingAt", who, ok, []int{2, 3})
		clear(who[:cap(who)])
	}
}

// checkOver checks that there are no more goroutines than before.
func checkOver(t *testing.T, before int) {
	t.Helper()
	// One that has told that it is over may need a moment to be counted so.
	for range 1000000 {
		if runtime.NumGoroutine() <= before {
			return
		}
		runtime.Gosched()
	}
	t.Error("goroutines", before, runtime.NumGoroutine())
}

// checkAtOneTime checks that the same calls at one time, whose results a text tells, do not disturb each other.
func checkAtOneTime(t *testing.T, resultsOfCalls func() string) {
	t.Helper()
	results := make(chan string)
	for range 20 {
		go func() { results <- resultsOfCalls() }()
	}
	first := <-results
	for range 19 {
		if next := <-results; next != first {
			t.Error("not the same", next, first)
		}
	}
}

// Nothing goes on behind a call.
func TestMarchesAreOver(t *testing.T) {
	before := runtime.NumGoroutine()
	for range 100 {
		for _, paces := range append(widePaces(), longPaces()...) {
			impl.BeatsOf(paces, 0)
			impl.BeatsOf(paces, 200)
		}
		answersOfPaces(pacesOf(2, 0, 3, 1))
	}
	checkOver(t, before)
}

func TestMarchesAtOneTime(t *testing.T) {
	checkAtOneTime(t, func() string {
		text := ""
		for _, paces := range widePaces() {
			s, _ := impl.BeatsOf(paces, 200)
			n, time, _ := impl.MostAtOnce(paces)
			text += s + showList([]int{n, time})
		}
		return text
	})
}

// Promise 11: numbers and texts of whatever size are accepted, in all orders.
func TestStepArgumentsOfAllSizes(t *testing.T) {
	numbers := []int{math.MinInt, math.MinInt + 1, -1 << 32, -61, -1, 0, 1, 2, 6, 7, 59, 60, 61, 200, 201, 1000000, 1000001, 1000000000, 1000000001, 1 << 32, 1 << 62, math.MaxInt - 1, math.MaxInt}
	lists := append(append(noPaces(), longPaces()...), pacesOf(1, 0), pacesOf(2, 0, 3, 1), slices.Repeat(pacesOf(60, 59), 6))
	for _, paces := range lists {
		for _, n := range numbers {
			impl.SteppingAt(paces, n)
			impl.CountAtOnce(paces, n)
			impl.TimeOfStep(paces, n)
			impl.ShiftPaces(paces, n)
			impl.BeatsOf(paces, n)
			impl.DropPace(paces, n)
			for _, m := range numbers {
				impl.StepsIn(paces, n, m)
				impl.AddPace(paces, impl.Pace{Every: n, From: m})
				answersOfPaces([]impl.Pace{{Every: n, From: m}, {Every: m, From: n}})
			}
		}
	}
	for _, text := range slices.Concat(noBeats(), noPacesTexts(), noWords(), noFacings()) {
		impl.PaceOfBeats(text)
		impl.ParsePaces(text)
	}
}
