package tests

import (
	"math"
	"runtime"
	"slices"
	"strconv"
	"strings"
	"testing"

	"loop.example/g01332/impl"
)

func goesRight(from, slow int) impl.Signal { return impl.Signal{From: from, Slow: slow} }

func goesLeft(from, slow int) impl.Signal { return impl.Signal{From: from, Left: true, Slow: slow} }

func showSignal(s impl.Signal) string {
	sign := ">"
	if s.Left {
		sign = "<"
	}
	return strconv.Itoa(s.From) + sign + strconv.Itoa(s.Slow)
}

func showSignals(soldiers int, list ...impl.Signal) string {
	text := " " + strconv.Itoa(soldiers) + ":"
	for _, s := range list {
		text += " " + showSignal(s)
	}
	return text
}

// course tells for each time from 0 on where a signal is, and whether it came there at that time.
type course struct {
	places []int
	comes  []bool
}

// plainCourse lets a signal go on, time by time, up to a last one.
func plainCourse(soldiers int, s impl.Signal, last int) course {
	place, by, left := s.From, 1, s.Slow
	if s.Left {
		by = -1
	}
	c := course{[]int{place}, []bool{true}}
	for len(c.places) <= last {
		left--
		goes := left == 0 && soldiers > 1
		if left == 0 {
			left = s.Slow
		}
		if goes && (place+by < 0 || place+by == soldiers) {
			by = -by
		}
		if goes {
			place += by
		}
		c.places, c.comes = append(c.places, place), append(c.comes, goes)
	}
	return c
}

// plainMeetings returns all times at which two signals meet.
func plainMeetings(c, d course) []int {
	var times []int
	for time := range c.places {
		if c.places[time] == d.places[time] && (c.comes[time] || d.comes[time]) {
			times = append(times, time)
		}
	}
	return times
}

// upTo returns how many of some increasing times there are up to a last one.
func upTo(times []int, last int) int {
	count := 0
	for _, time := range times {
		if time <= last {
			count++
		}
	}
	return count
}

// plainHearing returns for each soldier the first time at which one of some signals is there.
func plainHearing(soldiers int, list []impl.Signal) []int {
	times := make([]int, soldiers)
	for k := range times {
		times[k] = math.MaxInt
		for _, s := range list {
			at := slices.Index(plainCourse(soldiers, s, 2*soldiers*s.Slow).places, k)
			times[k] = min(times[k], at)
		}
	}
	return times
}

// plainSpreading lets news go on from neighbour to neighbour, time by time.
func plainSpreading(soldiers int, from []int) []int {
	times := slices.Repeat([]int{-1}, soldiers)
	for _, k := range from {
		times[k] = 0
	}
	for time := 0; slices.Contains(times, -1); time++ {
		for k := range times {
			isBeside := k > 0 && times[k-1] == time || k < soldiers-1 && times[k+1] == time
			if times[k] < 0 && isBeside {
				times[k] = time + 1
			}
		}
	}
	return times
}

// signalsOf returns signals of a row that begin at both ends and in the middle, and are as slow as told.
func signalsOf(soldiers int, slows ...int) []impl.Signal {
	froms := []int{0, 1, soldiers / 2, soldiers - 2, soldiers - 1}
	slices.Sort(froms)
	var list []impl.Signal
	for _, from := range slices.Compact(froms) {
		for _, slow := range slows {
			if from >= 0 && from < soldiers {
				list = append(list, goesRight(from, slow), goesLeft(from, slow))
			}
		}
	}
	return list
}

// signalRows returns numbers of soldiers, short ones and those next to MaxSignalRow.
func signalRows() []int { return []int{1, 2, 3, 4, 5, 6, 7, 10, 33, 50, 99, 100} }

// noSignalRows returns numbers of soldiers that are none.
func noSignalRows() []int {
	return []int{0, -1, -2, -100, -101, 101, 102, 200, 1 << 32, 1<<32 + 5, -1<<32 + 5, 1 << 62, math.MinInt, math.MinInt + 1, math.MinInt + 5, math.MaxInt - 1, math.MaxInt}
}

// noSignalsOf returns signals that are none of a row of so many soldiers.
func noSignalsOf(soldiers int) []impl.Signal {
	var list []impl.Signal
	for _, from := range []int{-1, -2, -soldiers, soldiers, soldiers + 1, 3 * soldiers, 100, 101, 1 << 32, -1 << 32, 1 << 62, math.MinInt, math.MinInt + 1, math.MaxInt - 1, math.MaxInt} {
		list = append(list, goesRight(from, 1), goesLeft(from, 1), goesRight(from, 10), goesLeft(from, 10))
	}
	for _, slow := range []int{0, -1, -2, -10, 11, 12, 100, 1 << 32, 1<<32 + 1, -1<<32 + 1, 1 << 62, math.MinInt, math.MinInt + 1, math.MaxInt - 1, math.MaxInt} {
		list = append(list, goesRight(0, slow), goesLeft(0, slow), goesRight(soldiers-1, slow), goesLeft(soldiers-1, slow), goesRight(slow, slow), goesLeft(soldiers, slow))
	}
	return list
}

// noSignalTimes returns times that are never asked for.
func noSignalTimes() []int {
	return []int{-1, -2, -1000, -100000, 100001, 100002, 200000, 1 << 32, -1 << 32, 1<<32 + 1, 1 << 62, math.MinInt, math.MinInt + 1, math.MaxInt - 1, math.MaxInt}
}

func TestSignalConstants(t *testing.T) {
	if impl.MaxSignalRow != 100 || impl.MaxSignals != 10 || impl.MaxSignalTime != 100000 {
		t.Error("limits", impl.MaxSignalRow, impl.MaxSignals, impl.MaxSignalTime)
	}
}

func TestSignalExample(t *testing.T) {
	s, ok := impl.ParseSignal("0>1")
	if !ok || s != goesRight(0, 1) {
		t.Error("0>1 is", s, ok)
	}
	u, ok := impl.ParseSignal("4<1")
	if !ok || u != goesLeft(4, 1) {
		t.Error("4<1 is", u, ok)
	}
	n, ok := impl.SignalAt(5, s, 4)
	checkInt(t, "at 4", n, ok, 4)
	n, ok = impl.SignalAt(5, s, 8)
	checkInt(t, "at 8", n, ok, 0)
	n, ok = impl.SignalPeriod(5, s)
	checkInt(t, "period", n, ok, 8)
	time, place, ok := impl.FirstMeeting(5, s, u)
	checkTwo(t, "meeting", time, place, ok, 2, 2)
	time, place, ok = impl.MiddleMeeting(5)
	checkTwo(t, "middle", time, place, ok, 6, 2)
	n, ok = impl.TimeAllKnow(5, []int{1, 3})
	checkInt(t, "all know", n, ok, 1)
	n, ok = impl.LeastTimeWith(5, 2)
	checkInt(t, "least time", n, ok, 1)
	list, ok := impl.BestStarts(5, 2)
	checkList(t, "starts", list, ok, []int{0, 3})
	list, ok = impl.WaitsFor(5, 0)
	checkList(t, "waits", list, ok, []int{4, 3, 2, 1, 0})
}

func TestAreSignals(t *testing.T) {
	for _, soldiers := range signalRows() {
		good := signalsOf(soldiers, 1, 2, 9, 10)
		for count := range 14 {
			list := slices.Repeat(good, 13)[:count]
			if got := impl.AreSignals(soldiers, list); got != (count >= 1 && count <= 10) {
				t.Error(soldiers, "soldiers,", count, "signals", got)
			}
			for _, none := range noSignalRows() {
				if impl.AreSignals(none, list) {
					t.Error("signals of", none, "soldiers", list)
				}
			}
		}
		for _, s := range good {
			if !impl.AreSignals(soldiers, []impl.Signal{s}) {
				t.Error(soldiers, "soldiers", s)
			}
		}
		for _, wrong := range noSignalsOf(soldiers) {
			for count := range 10 {
				for _, at := range []int{0, count / 2, count} {
					list := slices.Insert(slices.Repeat(good[:1], count), at, wrong)
					if impl.AreSignals(soldiers, list) {
						t.Error(soldiers, "soldiers", list)
					}
				}
			}
		}
	}
	if impl.AreSignals(5, nil) || impl.AreSignals(5, []impl.Signal{}) || impl.AreSignals(0, nil) || impl.AreSignals(5, make([]impl.Signal, 3)) {
		t.Error("lists that are none")
	}
}

// Signals of one row may be none of a shorter one.
func TestSignalsOfShorterRows(t *testing.T) {
	for soldiers := 1; soldiers <= 100; soldiers++ {
		for _, from := range []int{0, 1, 2, 49, 50, 98, 99} {
			if got := impl.AreSignals(soldiers, []impl.Signal{goesRight(0, 1), goesLeft(from, 10)}); got != (from < soldiers) {
				t.Error(from, "of", soldiers, got)
			}
		}
	}
}

// Promise 8: signals go on by one every Slow times, and come back from the ends.
func TestSignalAt(t *testing.T) {
	for _, soldiers := range signalRows() {
		for _, s := range signalsOf(soldiers, 1, 2, 3, 7, 9, 10) {
			what := "SignalAt" + showSignals(soldiers, s)
			want := plainCourse(soldiers, s, min(4*soldiers*s.Slow+3, 1500)).places
			for time, place := range want {
				got, ok := impl.SignalAt(soldiers, s, time)
				checkInt(t, what+showList([]int{time}), got, ok, place)
			}
			for _, time := range noSignalTimes() {
				got, ok := impl.SignalAt(soldiers, s, time)
				checkFails(t, what+showList([]int{time}), ok, got)
			}
		}
	}
}

func TestSignalAtLate(t *testing.T) {
	for _, soldiers := range []int{1, 2, 3, 8, 37, 99, 100} {
		for _, s := range signalsOf(soldiers, 1, 3, 10) {
			want := plainCourse(soldiers, s, 100000).places
			for _, time := range []int{9999, 65535, 65536, 99900, 99989, 99990, 99998, 99999, 100000} {
				got, ok := impl.SignalAt(soldiers, s, time)
				checkInt(t, "SignalAt"+showSignals(soldiers, s)+showList([]int{time}), got, ok, want[time])
			}
		}
	}
}

func TestKnownPlacesOfSignals(t *testing.T) {
	known := []struct {
		soldiers int
		s        impl.Signal
		places   []int
	}{
		{1, goesRight(0, 1), []int{0, 0, 0, 0}}, {1, goesLeft(0, 10), []int{0, 0, 0, 0}},
		{2, goesRight(0, 1), []int{0, 1, 0, 1, 0}}, {2, goesLeft(0, 1), []int{0, 1, 0, 1, 0}}, {2, goesRight(1, 2), []int{1, 1, 0, 0, 1, 1, 0}}, {2, goesLeft(1, 2), []int{1, 1, 0, 0, 1, 1, 0}},
		{3, goesRight(1, 1), []int{1, 2, 1, 0, 1, 2}}, {3, goesLeft(1, 1), []int{1, 0, 1, 2, 1, 0}}, {3, goesRight(2, 1), []int{2, 1, 0, 1, 2, 1}}, {3, goesLeft(0, 1), []int{0, 1, 2, 1, 0, 1}},
		{4, goesLeft(2, 3), []int{2, 2, 2, 1, 1, 1, 0, 0, 0, 1, 1, 1, 2, 2, 2, 3, 3, 3, 2, 2, 2, 1}},
		{100, goesRight(98, 1), []int{98, 99, 98, 97}}, {100, goesRight(99, 1), []int{99, 98, 97}}, {100, goesLeft(0, 10), []int{0, 0, 0, 0, 0, 0, 0, 0, 0, 0, 1, 1}},
	}
	for _, k := range known {
		for time, place := range k.places {
			got, ok := impl.SignalAt(k.soldiers, k.s, time)
			checkInt(t, "SignalAt"+showSignals(k.soldiers, k.s)+showList([]int{time}), got, ok, place)
		}
	}
	// A row of 100 with Slow 10 has the period 1980, of which 50 make 99000.
	for time, place := range map[int]int{989: 98, 990: 99, 999: 99, 1000: 98, 1979: 1, 1980: 0, 1990: 1, 98999: 1, 99000: 0, 99990: 99, 99999: 99, 100000: 98} {
		got, ok := impl.SignalAt(100, goesRight(0, 10), time)
		checkInt(t, "SignalAt"+showList([]int{time}), got, ok, place)
	}
}

func TestSignalPeriod(t *testing.T) {
	for _, soldiers := range signalRows() {
		for _, s := range signalsOf(soldiers, 1, 2, 3, 9, 10) {
			got, ok := impl.SignalPeriod(soldiers, s)
			checkInt(t, "SignalPeriod"+showSignals(soldiers, s), got, ok, max(1, 2*(soldiers-1)*s.Slow))
		}
	}
	for soldiers := 1; soldiers <= 6; soldiers++ {
		for _, s := range signalsOf(soldiers, 1, 2, 3, 10) {
			places := plainCourse(soldiers, s, 400).places
			period := 1
			for !slices.Equal(places[period:], places[:len(places)-period]) {
				period++
			}
			got, ok := impl.SignalPeriod(soldiers, s)
			checkInt(t, "the least SignalPeriod"+showSignals(soldiers, s), got, ok, period)
		}
	}
	got, ok := impl.SignalPeriod(100, goesLeft(57, 10))
	checkInt(t, "the greatest SignalPeriod", got, ok, 1980)
}

// Promise 8: behind a period a signal is where it was, whatever the time.
func TestSignalsComeBack(t *testing.T) {
	for _, soldiers := range signalRows() {
		for _, s := range signalsOf(soldiers, 1, 4, 10) {
			period, _ := impl.SignalPeriod(soldiers, s)
			for time := 0; time+period <= 100000; time += 997 {
				a, _ := impl.SignalAt(soldiers, s, time)
				b, ok := impl.SignalAt(soldiers, s, time+period)
				checkInt(t, "SignalAt"+showSignals(soldiers, s)+showList([]int{time, period}), b, ok, a)
			}
		}
	}
}

func TestTimesAt(t *testing.T) {
	for _, soldiers := range signalRows() {
		for _, s := range signalsOf(soldiers, 1, 2, 7, 10) {
			c := plainCourse(soldiers, s, 1000)
			for _, place := range []int{0, 1, soldiers / 2, soldiers - 2, soldiers - 1} {
				var want []int
				for time := range c.places {
					if c.comes[time] && c.places[time] == place {
						want = append(want, time)
					}
				}
				checkTimesAt(t, soldiers, s, place, want)
			}
		}
	}
}

// checkTimesAt checks TimesAt up to the limits, and to just before, at and just behind some times of all that are wanted.
func checkTimesAt(t *testing.T, soldiers int, s impl.Signal, place int, all []int) {
	t.Helper()
	untils := []int{-1, 0, 1, s.Slow - 1, s.Slow, 500, 999, 1000, 1001}
	for _, time := range all[:min(len(all), 4)] {
		untils = append(untils, time-1, time, time+1)
	}
	for _, until := range append(untils, noSignalTimes()...) {
		what := "TimesAt" + showSignals(soldiers, s) + showList([]int{place, until})
		got, ok := impl.TimesAt(soldiers, s, place, until)
		if place < 0 || place >= soldiers || until < 0 || until > 1000 {
			checkNoList(t, what, got, ok)
		} else {
			checkList(t, what, got, ok, all[:upTo(all, until)])
		}
	}
}

func TestKnownTimesAt(t *testing.T) {
	known := []struct {
		soldiers     int
		s            impl.Signal
		place, until int
		want         []int
	}{
		{1, goesRight(0, 1), 0, 0, []int{0}}, {1, goesLeft(0, 1), 0, 1000, []int{0}}, {1, goesRight(0, 10), 0, 1000, []int{0}},
		{2, goesRight(0, 1), 0, 4, []int{0, 2, 4}}, {2, goesRight(0, 1), 1, 4, []int{1, 3}}, {2, goesLeft(1, 10), 1, 40, []int{0, 20, 40}}, {2, goesLeft(1, 10), 0, 9, nil}, {2, goesLeft(1, 10), 0, 10, []int{10}},
		{5, goesRight(0, 1), 4, 12, []int{4, 12}}, {5, goesRight(0, 1), 4, 11, []int{4}}, {5, goesRight(0, 1), 3, 12, []int{3, 5, 11}}, {5, goesRight(2, 2), 2, 16, []int{0, 8, 16}}, {5, goesLeft(2, 2), 4, 1, nil},
		{100, goesRight(0, 10), 99, 1000, []int{990}}, {100, goesRight(0, 10), 98, 1000, []int{980, 1000}}, {100, goesRight(0, 10), 98, 999, []int{980}}, {100, goesLeft(99, 1), 99, 1000, []int{0, 198, 396, 594, 792, 990}},
	}
	for _, k := range known {
		got, ok := impl.TimesAt(k.soldiers, k.s, k.place, k.until)
		checkList(t, "TimesAt"+showSignals(k.soldiers, k.s)+showList([]int{k.place, k.until}), got, ok, k.want)
	}
}

// Promise 8: two signals meet where both are when one of them comes there.
func TestMeetings(t *testing.T) {
	for soldiers := 1; soldiers <= 7; soldiers++ {
		list := signalsOf(soldiers, 1, 2, 3, 4, 9, 10)
		var courses []course
		for _, s := range list {
			// A common period of two of these signals is no longer.
			courses = append(courses, plainCourse(soldiers, s, max(2*(soldiers-1)*180, 1000)))
		}
		for k, s := range list {
			for j, u := range list {
				checkMeetings(t, soldiers, s, u, plainMeetings(courses[k], courses[j]))
			}
		}
	}
}

func TestMeetingsOfLongRows(t *testing.T) {
	for _, soldiers := range []int{33, 64, 99, 100} {
		list := signalsOf(soldiers, 1, 7, 10)
		var courses []course
		for _, s := range list {
			courses = append(courses, plainCourse(soldiers, s, 2*(soldiers-1)*70+1))
		}
		for k, s := range list {
			for j, u := range list {
				checkMeetings(t, soldiers, s, u, plainMeetings(courses[k], courses[j]))
			}
		}
	}
}

// checkMeetings checks what is told of meetings at all times that are wanted, up to a common period at least.
func checkMeetings(t *testing.T, soldiers int, s, u impl.Signal, all []int) {
	t.Helper()
	what := showSignals(soldiers, s, u)
	time, place, ok := impl.FirstMeeting(soldiers, s, u)
	if len(all) == 0 {
		checkFails(t, "FirstMeeting"+what, ok, time, place)
	} else {
		checkTwo(t, "FirstMeeting"+what, time, place, ok, all[0], plainCourse(soldiers, s, all[0]).places[all[0]])
	}
	untils := []int{0, 1, s.Slow - 1, u.Slow, 499, 999, 1000}
	if len(all) > 0 && all[0] < 999 {
		untils = append(untils, max(all[0]-1, 0), all[0], all[0]+1)
	}
	for _, until := range untils {
		got, ok := impl.CountMeetings(soldiers, s, u, until)
		checkInt(t, "CountMeetings"+what+showList([]int{until}), got, ok, upTo(all, until))
	}
}

func TestKnownMeetings(t *testing.T) {
	known := []struct {
		soldiers    int
		s, u        impl.Signal
		time, place int
	}{
		{1, goesRight(0, 1), goesLeft(0, 10), 0, 0}, {2, goesRight(0, 1), goesLeft(0, 10), 0, 0}, {5, goesRight(3, 2), goesLeft(3, 1), 0, 3},
		{5, goesRight(0, 1), goesLeft(4, 1), 2, 2}, {6, goesRight(0, 1), goesLeft(4, 1), 2, 2},
		// One of them stood at that place already.
		{5, goesRight(0, 1), goesLeft(3, 10), 3, 3}, {5, goesRight(2, 10), goesRight(4, 2), 4, 2}, {2, goesRight(0, 1), goesLeft(1, 2), 1, 1}, {2, goesRight(0, 10), goesLeft(1, 9), 9, 0},
		// One goes behind the other one, and comes to it when this one has come back, or stands.
		{5, goesRight(0, 1), goesRight(2, 1), 3, 3}, {4, goesRight(0, 1), goesRight(1, 2), 1, 1}, {100, goesRight(0, 10), goesRight(98, 10), 500, 50}, {100, goesRight(0, 1), goesRight(99, 10), 90, 90},
	}
	for _, k := range known {
		what := "FirstMeeting" + showSignals(k.soldiers, k.s, k.u)
		time, place, ok := impl.FirstMeeting(k.soldiers, k.s, k.u)
		checkTwo(t, what, time, place, ok, k.time, k.place)
		time, place, ok = impl.FirstMeeting(k.soldiers, k.u, k.s)
		checkTwo(t, what+" exchanged", time, place, ok, k.time, k.place)
	}
	count, ok := impl.CountMeetings(1, goesRight(0, 1), goesLeft(0, 2), 1000)
	checkInt(t, "CountMeetings of one soldier", count, ok, 1)
	count, ok = impl.CountMeetings(5, goesRight(0, 1), goesLeft(4, 1), 10)
	checkInt(t, "CountMeetings each 4 times from 2 on", count, ok, 3)
	count, ok = impl.CountMeetings(5, goesRight(2, 10), goesRight(2, 10), 1000)
	checkInt(t, "CountMeetings of one signal with itself", count, ok, 101)
	count, ok = impl.CountMeetings(2, goesRight(0, 1), goesLeft(1, 2), 4)
	checkInt(t, "CountMeetings where one stands", count, ok, 2)
	count, ok = impl.CountMeetings(2, goesRight(0, 10), goesRight(0, 10), 9)
	checkInt(t, "CountMeetings while both stand", count, ok, 1)
}

// Signals that only pass each other between two soldiers, or go one behind the other for ever, do not meet.
func TestSignalsThatNeverMeet(t *testing.T) {
	known := []struct {
		soldiers int
		s, u     impl.Signal
	}{
		{2, goesRight(0, 1), goesLeft(1, 1)}, {2, goesRight(0, 10), goesRight(1, 10)}, {4, goesRight(0, 1), goesLeft(3, 1)}, {5, goesRight(0, 1), goesRight(1, 1)}, {6, goesRight(2, 7), goesLeft(5, 7)},
		{100, goesRight(0, 1), goesLeft(99, 1)}, {100, goesLeft(50, 10), goesRight(51, 10)}, {99, goesRight(0, 3), goesRight(97, 3)},
	}
	for _, k := range known {
		checkMeetings(t, k.soldiers, k.s, k.u, nil)
		checkMeetings(t, k.soldiers, k.u, k.s, nil)
	}
}

func TestLimitsOfMeetings(t *testing.T) {
	s, u := goesRight(0, 1), goesLeft(4, 1)
	for _, until := range append(noSignalTimes(), 1001, 1002, 100000) {
		got, ok := impl.CountMeetings(5, s, u, until)
		checkFails(t, "CountMeetings"+showList([]int{until}), ok, got)
		got, ok = impl.CountMeetings(1, goesRight(0, 1), goesRight(0, 1), until)
		checkFails(t, "CountMeetings of one soldier"+showList([]int{until}), ok, got)
	}
	for _, soldiers := range signalRows() {
		for _, wrong := range noSignalsOf(soldiers) {
			right := goesRight(soldiers-1, 10)
			for _, pair := range [][2]impl.Signal{{wrong, right}, {right, wrong}, {wrong, wrong}} {
				what := showSignals(soldiers, pair[0], pair[1])
				time, place, ok := impl.FirstMeeting(soldiers, pair[0], pair[1])
				checkFails(t, "FirstMeeting"+what, ok, time, place)
				got, ok := impl.CountMeetings(soldiers, pair[0], pair[1], 0)
				checkFails(t, "CountMeetings"+what, ok, got)
			}
		}
	}
}

// signalLists returns lists of 1 up to MaxSignals signals.
func signalLists(soldiers int) [][]impl.Signal {
	all := signalsOf(soldiers, 1, 3, 10)
	var lists [][]impl.Signal
	for k := range all {
		lists = append(lists, all[k:k+1], []impl.Signal{all[k], all[len(all)-1-k]})
		if k+10 <= len(all) {
			lists = append(lists, all[k:k+10])
		}
	}
	last := soldiers - 1
	return append(lists,
		[]impl.Signal{goesRight(0, 10), goesLeft(last, 10)}, []impl.Signal{goesRight(last/2, 2), goesLeft(last/2, 2)}, []impl.Signal{goesLeft(last/3, 9), goesRight(last/2, 5), goesLeft(last, 1)},
		slices.Repeat([]impl.Signal{goesLeft(last, 10)}, 10))
}

func TestHearing(t *testing.T) {
	for _, soldiers := range signalRows() {
		for _, list := range signalLists(soldiers) {
			what := showSignals(soldiers, list...)
			times := plainHearing(soldiers, list)
			last := slices.Max(times)
			got, ok := impl.TimeAllHear(soldiers, list)
			checkInt(t, "TimeAllHear"+what, got, ok, last)
			for _, until := range []int{0, 1, 2, 9, 10, 11, last / 2, max(last-1, 0), last, last + 1, 2 * last, 1000, 1001, 99999, 100000} {
				var want []int
				for k, time := range times {
					if time <= until {
						want = append(want, k)
					}
				}
				who, ok := impl.HeardBy(soldiers, list, until)
				checkList(t, "HeardBy"+what+showList([]int{until}), who, ok, want)
				if (len(who) == soldiers) != (until >= last) {
					t.Error("all hear at", last, "but not at", until, what)
				}
			}
			for _, until := range noSignalTimes() {
				who, ok := impl.HeardBy(soldiers, list, until)
				checkNoList(t, "HeardBy"+what+showList([]int{until}), who, ok)
			}
		}
	}
}

func TestKnownHearing(t *testing.T) {
	known := []struct {
		soldiers int
		list     []impl.Signal
		all      int
		until    int
		who      []int
	}{
		{1, []impl.Signal{goesRight(0, 10)}, 0, 0, []int{0}}, {1, slices.Repeat([]impl.Signal{goesLeft(0, 1)}, 10), 0, 100000, []int{0}},
		{2, []impl.Signal{goesRight(0, 10)}, 10, 9, []int{0}}, {2, []impl.Signal{goesLeft(0, 10)}, 10, 10, []int{0, 1}}, {2, []impl.Signal{goesLeft(0, 10), goesLeft(1, 10)}, 0, 0, []int{0, 1}},
		{5, []impl.Signal{goesRight(3, 1)}, 5, 2, []int{3, 4}}, {5, []impl.Signal{goesRight(3, 1)}, 5, 3, []int{2, 3, 4}}, {5, []impl.Signal{goesRight(3, 2)}, 10, 9, []int{1, 2, 3, 4}}, {5, []impl.Signal{goesLeft(3, 1), goesRight(3, 1)}, 3, 1, []int{2, 3, 4}},
		{5, []impl.Signal{goesRight(4, 1), goesLeft(0, 1)}, 2, 1, []int{0, 1, 3, 4}}, {6, []impl.Signal{goesRight(0, 10), goesRight(5, 1)}, 4, 0, []int{0, 5}},
		{100, []impl.Signal{goesRight(0, 10)}, 990, 10, []int{0, 1}}, {100, []impl.Signal{goesLeft(98, 10)}, 980 + 990, 20, []int{96, 97, 98}}, {100, []impl.Signal{goesRight(1, 10)}, 980 + 990, 9, []int{1}}, {100, []impl.Signal{goesRight(0, 1), goesRight(99, 1)}, 49, 2, []int{0, 1, 2, 97, 98, 99}},
	}
	for _, k := range known {
		what := showSignals(k.soldiers, k.list...)
		got, ok := impl.TimeAllHear(k.soldiers, k.list)
		checkInt(t, "TimeAllHear"+what, got, ok, k.all)
		who, ok := impl.HeardBy(k.soldiers, k.list, k.until)
		checkList(t, "HeardBy"+what+showList([]int{k.until}), who, ok, k.who)
	}
}

func TestListsThatAreNotHeard(t *testing.T) {
	for _, soldiers := range []int{1, 2, 5, 100} {
		right := goesLeft(soldiers-1, 1)
		lists := [][]impl.Signal{nil, {}, slices.Repeat([]impl.Signal{right}, 11), slices.Repeat([]impl.Signal{right}, 12), make([]impl.Signal, 1000)}
		for _, wrong := range noSignalsOf(soldiers) {
			lists = append(lists, []impl.Signal{wrong}, []impl.Signal{wrong, right}, []impl.Signal{right, wrong}, slices.Insert(slices.Repeat([]impl.Signal{right}, 9), 5, wrong), slices.Insert(slices.Repeat([]impl.Signal{right}, 10), 10, wrong))
		}
		for _, list := range lists {
			what := showSignals(soldiers, list[:min(len(list), 12)]...)
			got, ok := impl.TimeAllHear(soldiers, list)
			checkFails(t, "TimeAllHear"+what, ok, got)
			for _, until := range []int{0, 1, 100000} {
				who, ok := impl.HeardBy(soldiers, list, until)
				checkNoList(t, "HeardBy"+what, who, ok)
			}
		}
	}
}

// checkSpreading checks what is told of news from some soldiers.
func checkSpreading(t *testing.T, soldiers int, from []int) {
	t.Helper()
	what := showList([]int{soldiers}) + ":" + showList(from)
	want := plainSpreading(soldiers, from)
	times, ok := impl.SpreadTimes(soldiers, from)
	checkList(t, "SpreadTimes"+what, times, ok, want)
	for k, time := range times {
		nearest := soldiers
		for _, start := range from {
			nearest = min(nearest, max(k-start, start-k))
		}
		checkInt(t, "the distance of"+showList([]int{k})+" in"+what, time, ok, nearest)
	}
	got, ok := impl.TimeAllKnow(soldiers, from)
	checkInt(t, "TimeAllKnow"+what, got, ok, slices.Max(want))
}

// Promise 8: news come by distance.
func TestSpreading(t *testing.T) {
	for soldiers := 1; soldiers <= 9; soldiers++ {
		for _, from := range choices(soldiers) {
			checkSpreading(t, soldiers, from)
		}
	}
	for _, soldiers := range []int{16, 17, 50, 99, 100} {
		var all []int
		for k := range soldiers {
			checkSpreading(t, soldiers, []int{k})
			all = append(all, k)
		}
		for by := 1; by <= soldiers; by++ {
			var from []int
			for k := by / 2; k < soldiers; k += by {
				from = append(from, k)
			}
			checkSpreading(t, soldiers, from)
		}
		for _, from := range [][]int{all, all[1:], all[:soldiers-1], {0, soldiers - 1}, {0, 1}, {soldiers - 2, soldiers - 1}, {0, soldiers / 3, soldiers - 1}, {1, 2, 3, soldiers / 2}} {
			checkSpreading(t, soldiers, from)
		}
	}
}

func TestKnownSpreading(t *testing.T) {
	known := []struct {
		soldiers int
		from     []int
		times    []int
		all      int
	}{
		{1, []int{0}, []int{0}, 0}, {2, []int{0}, []int{0, 1}, 1}, {2, []int{1}, []int{1, 0}, 1}, {2, []int{0, 1}, []int{0, 0}, 0},
		{5, []int{1, 3}, []int{1, 0, 1, 0, 1}, 1}, {5, []int{2}, []int{2, 1, 0, 1, 2}, 2}, {6, []int{0, 5}, []int{0, 1, 2, 2, 1, 0}, 2}, {5, []int{0, 1, 2, 3, 4}, []int{0, 0, 0, 0, 0}, 0}, {6, []int{0}, []int{0, 1, 2, 3, 4, 5}, 5},
	}
	for _, k := range known {
		times, ok := impl.SpreadTimes(k.soldiers, k.from)
		checkList(t, "SpreadTimes"+showList(k.from), times, ok, k.times)
		got, ok := impl.TimeAllKnow(k.soldiers, k.from)
		checkInt(t, "TimeAllKnow"+showList(k.from), got, ok, k.all)
	}
	for _, from := range []int{0, 99} {
		got, ok := impl.TimeAllKnow(100, []int{from})
		checkInt(t, "TimeAllKnow from an end", got, ok, 99)
	}
}

func TestNewsFromNobody(t *testing.T) {
	for _, soldiers := range signalRows() {
		last := soldiers - 1
		lists := [][]int{nil, {}, {0, 0}, {last, last}, {-1}, {-1, 0}, {soldiers}, {last, soldiers}, {0, soldiers}, {0, last, last}, {0, 0, last}, {-2, -1}, {last, last - 1}, {last, 0}, {0, last, 0}, make([]int, 101)}
		for _, wrong := range []int{soldiers + 1, 100, 101, 1 << 32, -1 << 32, math.MinInt, math.MinInt + 1, math.MaxInt - 1, math.MaxInt} {
			lists = append(lists, []int{wrong}, []int{0, wrong}, []int{wrong, 0}, []int{wrong, last}, []int{last, wrong}, []int{0, last, wrong})
		}
		for _, from := range lists {
			what := showList([]int{soldiers}) + ":" + showList(from[:min(len(from), 5)])
			times, ok := impl.SpreadTimes(soldiers, from)
			checkNoList(t, "SpreadTimes"+what, times, ok)
			got, ok := impl.TimeAllKnow(soldiers, from)
			checkFails(t, "TimeAllKnow"+what, ok, got)
		}
	}
	for _, from := range [][]int{{1, 3, 2}, {3, 1}, {1, 1, 3}, {1, 3, 3}, {0, 1, 2, 3, 4, 5}, {0, 1, 2, 3, 4, 4}} {
		times, ok := impl.SpreadTimes(5, from)
		checkNoList(t, "SpreadTimes"+showList(from), times, ok)
	}
}

// Promise 8: no other soldiers are better, and none with the same time come before.
func TestBestStartsOfAll(t *testing.T) {
	for soldiers := 1; soldiers <= 12; soldiers++ {
		best, leasts := map[int][]int{}, map[int]int{}
		for _, from := range choices(soldiers) {
			many := len(from)
			time := slices.Max(plainSpreading(soldiers, from))
			old, there := best[many]
			if !there || time < leasts[many] || time == leasts[many] && slices.Compare(from, old) < 0 {
				best[many], leasts[many] = from, time
			}
		}
		for many := 1; many <= soldiers; many++ {
			what := showList([]int{soldiers, many})
			got, ok := impl.LeastTimeWith(soldiers, many)
			checkInt(t, "LeastTimeWith"+what, got, ok, leasts[many])
			from, ok := impl.BestStarts(soldiers, many)
			checkList(t, "BestStarts"+what, from, ok, best[many])
		}
	}
}

// firstStarts searches, in the order of lists, for soldiers behind some from whom all know news at a time at last.
func firstStarts(soldiers, many, time int, from []int) []int {
	if len(from) == many {
		if slices.Max(plainSpreading(soldiers, from)) <= time {
			return from
		}
		return nil
	}
	start := 0
	if len(from) > 0 {
		start = from[len(from)-1] + 1
	}
	for ; start < soldiers; start++ {
		// Whoever stands between two starts that are too far apart does not know them in time.
		if len(from) == 0 && start > time || len(from) > 0 && start-from[len(from)-1] > 2*time+1 {
			break
		}
		if found := firstStarts(soldiers, many, time, append(slices.Clone(from), start)); found != nil {
			return found
		}
	}
	return nil
}

func TestBestStartsOfLongRows(t *testing.T) {
	for soldiers := 13; soldiers <= 16; soldiers++ {
		for many := 1; many <= soldiers; many++ {
			time, want := 0, []int(nil)
			for want == nil {
				want = firstStarts(soldiers, many, time, nil)
				time++
			}
			what := showList([]int{soldiers, many})
			got, ok := impl.LeastTimeWith(soldiers, many)
			checkInt(t, "LeastTimeWith"+what, got, ok, time-1)
			from, ok := impl.BestStarts(soldiers, many)
			checkList(t, "BestStarts"+what, from, ok, want)
			known, ok := impl.TimeAllKnow(soldiers, from)
			checkInt(t, "TimeAllKnow"+what, known, ok, time-1)
		}
	}
}

func TestKnownStarts(t *testing.T) {
	known := []struct {
		soldiers, many, time int
		from                 []int
	}{
		{1, 1, 0, []int{0}}, {2, 1, 1, []int{0}}, {2, 2, 0, []int{0, 1}}, {3, 1, 1, []int{1}}, {3, 2, 1, []int{0, 1}}, {4, 1, 2, []int{1}}, {4, 2, 1, []int{0, 2}}, {5, 2, 1, []int{0, 3}}, {5, 4, 1, []int{0, 1, 2, 3}}, {6, 2, 1, []int{1, 4}}, {7, 2, 2, []int{0, 4}},
		{16, 1, 8, []int{7}}, {16, 15, 1, []int{0, 1, 2, 3, 4, 5, 6, 7, 8, 9, 10, 11, 12, 13, 14}}, {16, 16, 0, []int{0, 1, 2, 3, 4, 5, 6, 7, 8, 9, 10, 11, 12, 13, 14, 15}}, {16, 3, 3, []int{0, 5, 12}}, {15, 3, 2, []int{2, 7, 12}}, {16, 8, 1, []int{0, 1, 2, 3, 5, 8, 11, 14}},
	}
	for _, k := range known {
		what := showList([]int{k.soldiers, k.many})
		got, ok := impl.LeastTimeWith(k.soldiers, k.many)
		checkInt(t, "LeastTimeWith"+what, got, ok, k.time)
		from, ok := impl.BestStarts(k.soldiers, k.many)
		checkList(t, "BestStarts"+what, from, ok, k.from)
	}
}

// As many soldiers as are needed for all to know news at a time stand so far apart that no two of them bring them to one place.
func TestLeastTimesOfLongRows(t *testing.T) {
	for soldiers := 1; soldiers <= 100; soldiers++ {
		for many := 1; many <= soldiers; many++ {
			want := 0
			for needed := soldiers; needed > many; {
				want++
				needed = 0
				for known := 0; known < soldiers; known += want + 1 + want {
					needed++
				}
			}
			got, ok := impl.LeastTimeWith(soldiers, many)
			checkInt(t, "LeastTimeWith"+showList([]int{soldiers, many}), got, ok, want)
			from, ok := impl.BestStarts(soldiers, many)
			if soldiers > 16 {
				checkNoList(t, "BestStarts"+showList([]int{soldiers, many}), from, ok)
			} else if !ok || len(from) != many {
				t.Error("BestStarts", soldiers, many, from, ok)
			}
		}
		for _, many := range []int{0, -1, -soldiers, soldiers + 1, soldiers + 2, 101, 1 << 32, 1<<32 + 1, 1 << 62, math.MinInt, math.MinInt + 1, math.MaxInt - 1, math.MaxInt} {
			checkNoStarts(t, soldiers, many)
		}
	}
	for _, soldiers := range noSignalRows() {
		for _, many := range []int{-1, 0, 1, 2, 5, 16, 100, 101, soldiers} {
			checkNoStarts(t, soldiers, many)
		}
	}
}

func checkNoStarts(t *testing.T, soldiers, many int) {
	t.Helper()
	what := showList([]int{soldiers, many})
	got, ok := impl.LeastTimeWith(soldiers, many)
	checkFails(t, "LeastTimeWith"+what, ok, got)
	from, ok := impl.BestStarts(soldiers, many)
	checkNoList(t, "BestStarts"+what, from, ok)
}

// All act at once, when the command has come to the last one, who does not wait.
func TestWaitsFor(t *testing.T) {
	for soldiers := 1; soldiers <= 100; soldiers++ {
		for from := range soldiers {
			var want []int
			for k, time := range plainSpreading(soldiers, []int{from}) {
				want = append(want, max(from, soldiers-1-from)-time)
				if want[k] < 0 {
					t.Fatal("the plain waits are wrong")
				}
			}
			waits, ok := impl.WaitsFor(soldiers, from)
			checkList(t, "WaitsFor"+showList([]int{soldiers, from}), waits, ok, want)
			checkInt(t, "the last one", slices.Min(waits), ok, 0)
		}
		for _, from := range []int{-1, -2, soldiers, soldiers + 1, 101, 1 << 32, -1 << 32, 1 << 62, math.MinInt, math.MinInt + 1, math.MaxInt - 1, math.MaxInt} {
			waits, ok := impl.WaitsFor(soldiers, from)
			checkNoList(t, "WaitsFor"+showList([]int{soldiers, from}), waits, ok)
		}
	}
	for _, soldiers := range noSignalRows() {
		for _, from := range []int{-1, 0, 1, 99, 100, soldiers, soldiers - 1} {
			waits, ok := impl.WaitsFor(soldiers, from)
			checkNoList(t, "WaitsFor"+showList([]int{soldiers, from}), waits, ok)
		}
	}
}

func TestKnownWaits(t *testing.T) {
	known := []struct {
		soldiers, from int
		waits          []int
	}{
		{1, 0, []int{0}}, {2, 0, []int{1, 0}}, {2, 1, []int{0, 1}}, {5, 0, []int{4, 3, 2, 1, 0}}, {5, 4, []int{0, 1, 2, 3, 4}}, {5, 2, []int{0, 1, 2, 1, 0}}, {5, 1, []int{2, 3, 2, 1, 0}}, {6, 3, []int{0, 1, 2, 3, 2, 1}}, {6, 2, []int{1, 2, 3, 2, 1, 0}},
	}
	for _, k := range known {
		waits, ok := impl.WaitsFor(k.soldiers, k.from)
		checkList(t, "WaitsFor"+showList([]int{k.soldiers, k.from}), waits, ok, k.waits)
	}
}

func TestMiddleMeeting(t *testing.T) {
	for soldiers := 2; soldiers <= 100; soldiers++ {
		all := plainMeetings(plainCourse(soldiers, goesRight(0, 1), 200), plainCourse(soldiers, goesRight(0, 3), 200))
		// Both begin at 0, which is no meeting behind the time 0.
		want := all[1]
		time, place, ok := impl.MiddleMeeting(soldiers)
		checkTwo(t, "MiddleMeeting"+showList([]int{soldiers}), time, place, ok, want, want/3)
		middle := (soldiers - 1) / 2
		if place != middle || soldiers%2 == 1 && time != 3*middle || soldiers%2 == 0 && time != 3*middle+2 {
			t.Error("not in the middle", soldiers, time, place)
		}
	}
	for soldiers, want := range map[int][2]int{2: {2, 0}, 3: {3, 1}, 4: {5, 1}, 5: {6, 2}, 99: {147, 49}, 100: {149, 49}} {
		time, place, ok := impl.MiddleMeeting(soldiers)
		checkTwo(t, "MiddleMeeting"+showList([]int{soldiers}), time, place, ok, want[0], want[1])
	}
	for _, soldiers := range append(noSignalRows(), 1) {
		time, place, ok := impl.MiddleMeeting(soldiers)
		checkFails(t, "MiddleMeeting"+showList([]int{soldiers}), ok, time, place)
	}
}

func TestSignalTexts(t *testing.T) {
	for from := range 100 {
		for slow := 1; slow <= 10; slow++ {
			for _, s := range []impl.Signal{goesRight(from, slow), goesLeft(from, slow)} {
				text, ok := impl.SignalText(s)
				checkText(t, "SignalText", text, ok, showSignal(s))
				back, ok := impl.ParseSignal(text)
				if !ok || back != s {
					t.Error("ParseSignal", text, back, ok)
				}
			}
		}
	}
	for _, wrong := range noSignalsOf(100) {
		text, ok := impl.SignalText(wrong)
		checkNoText(t, "SignalText "+showSignal(wrong), text, ok)
	}
	text, ok := impl.SignalText(goesLeft(99, 10))
	checkText(t, "SignalText", text, ok, "99<10")
	text, ok = impl.SignalText(goesRight(0, 1))
	checkText(t, "SignalText", text, ok, "0>1")
}

// noSignalTexts returns texts that are no SignalTexts.
func noSignalTexts() []string {
	texts := []string{
		"", " ", "<", ">", "0", "1", "0<", "0>", "<1", ">1", "<>", "><", "0<>1", "0><1", "0<<1", "0>>1", "0<1<", "<0<1", "0<1>", ">0<1", "0>1<", "0>1>2", "0<1<2", "0>1<2", "0<1>2", "0,1", "0=1", "0-1", "01", "0 1",
		"00<1", "00>1", "01>1", "007<1", "0>01", "0>001", "0>010", "0<00", "99>010", "099>1", "+0>1", "-0>1", "0>+1", "0>-1", "+1<1", "-1<1", "-1>-1", "1>-10", "--1>1",
		" 0>1", "0 >1", "0> 1", "0>1 ", "0>1\n", "\t0>1", "0>1\x00", "\x000>1", "0\x00>1", "0>1\r", "0.0>1", "0>1.0", "0x0>1", "0>0x1", "1e1>1", "0>1e1", "1_0>1", "0>1_0", "x>1", "0>x", "five<one",
		"100>1", "100<1", "101>1", "999>1", "0>0", "0>11", "99<11", "0>12", "99>100", "100>11", "1000<1", "99<0", "-1>1", "-100<10", "1>1,1>1", "(1>1)", "L1", "0L1", "0R1",
		"0>1\xff", "\xff0>1", "0\xff>1", "0>\xff1", "０>１", "0＞1", "0＜1", "٠>١", "0»1", "0›1", "é", "0>1é", "0>é", "é>1", "\u013c", "0\u013e1", "0\u013c1", "\xef\xbf\xbd", "\xef\xbb\xbf0>1", "0&lt;1", "0&gt;1",
		strings.Repeat("0>1", 2), strings.Repeat("0", 100000) + ">1", "0>" + strings.Repeat("0", 100000) + "1", strings.Repeat(">", 100000), strings.Repeat("<", 100000), "0>" + strings.Repeat("1", 100000), strings.Repeat("9", 100000) + "<1",
	}
	for _, number := range []string{"9223372036854775807", "9223372036854775808", "-9223372036854775808", "-9223372036854775809", "18446744073709551616", "18446744073709551617", "18446744073709551621", "4294967297", "100000000000000000000000000000000000005"} {
		texts = append(texts, number+">1", number+"<1", "5>"+number, "5<"+number, number+">"+number)
	}
	return texts
}

func checkNoSignal(t *testing.T, text string, s impl.Signal, ok bool) {
	t.Helper()
	if ok || s != (impl.Signal{}) {
		t.Errorf("ParseSignal %q: %v, %v, but it fails", text, s, ok)
	}
}

func TestTextsThatAreNoSignals(t *testing.T) {
	for _, text := range noSignalTexts() {
		s, ok := impl.ParseSignal(text)
		checkNoSignal(t, text, s, ok)
	}
	isText := map[string]bool{}
	for from := range 100 {
		for slow := 1; slow <= 10; slow++ {
			isText[strconv.Itoa(from)+">"+strconv.Itoa(slow)], isText[strconv.Itoa(from)+"<"+strconv.Itoa(slow)] = true, true
		}
	}
	var texts []string
	for length := range 6 {
		texts = append(texts, textsOf("019<>", length)...)
	}
	// One byte more at any place, or in place of another one.
	for _, text := range []string{"0>1", "9<10", "99>9"} {
		for at := range len(text) + 1 {
			for code := range 256 {
				sign := string([]byte{byte(code)})
				texts = append(texts, text[:at]+sign+text[at:], text[:at]+sign+text[min(at+1, len(text)):])
			}
		}
	}
	for _, text := range texts {
		s, ok := impl.ParseSignal(text)
		if !isText[text] {
			checkNoSignal(t, text, s, ok)
		} else if !ok || showSignal(s) != text {
			t.Error("ParseSignal", text, s, ok)
		}
	}
}

// Promise 8, of one soldier alone: a signal comes at the time 0 only, and stays.
func TestSignalsOfOneSoldier(t *testing.T) {
	for slow := 1; slow <= 10; slow++ {
		for _, s := range []impl.Signal{goesRight(0, slow), goesLeft(0, slow)} {
			for _, time := range []int{0, 1, slow - 1, slow, slow + 1, 2 * slow, 1000, 99999, 100000} {
				place, ok := impl.SignalAt(1, s, time)
				checkInt(t, "SignalAt", place, ok, 0)
				who, ok := impl.HeardBy(1, []impl.Signal{s, s}, time)
				checkList(t, "HeardBy", who, ok, []int{0})
			}
			for _, until := range []int{0, 1, slow, 999, 1000} {
				times, ok := impl.TimesAt(1, s, 0, until)
				checkList(t, "TimesAt", times, ok, []int{0})
				count, ok := impl.CountMeetings(1, s, goesRight(0, 3), until)
				checkInt(t, "CountMeetings", count, ok, 1)
			}
			period, ok := impl.SignalPeriod(1, s)
			checkInt(t, "SignalPeriod", period, ok, 1)
			time, place, ok := impl.FirstMeeting(1, s, goesLeft(0, 7))
			checkTwo(t, "FirstMeeting", time, place, ok, 0, 0)
			all, ok := impl.TimeAllHear(1, []impl.Signal{s})
			checkInt(t, "TimeAllHear", all, ok, 0)
		}
	}
	checkSpreading(t, 1, []int{0})
	waits, ok := impl.WaitsFor(1, 0)
	checkList(t, "WaitsFor", waits, ok, []int{0})
	from, ok := impl.BestStarts(1, 1)
	checkList(t, "BestStarts", from, ok, []int{0})
}

// answersOfSignals calls every function of signals of a row, and tells by name which of them succeed and which return more than zero values.
func answersOfSignals(soldiers int, s impl.Signal) (succeed, nonzero []string) {
	note := func(name string, isZero bool, ok bool) {
		if ok {
			succeed = append(succeed, name)
		}
		if !isZero {
			nonzero = append(nonzero, name)
		}
	}
	if impl.AreSignals(soldiers, []impl.Signal{s}) {
		note("AreSignals", false, true)
	}
	n, ok := impl.SignalAt(soldiers, s, 1)
	note("SignalAt", n == 0, ok)
	n, ok = impl.SignalPeriod(soldiers, s)
	note("SignalPeriod", n == 0, ok)
	list, ok := impl.TimesAt(soldiers, s, 0, 1000)
	note("TimesAt", len(list) == 0, ok)
	time, place, ok := impl.FirstMeeting(soldiers, s, s)
	note("FirstMeeting", time == 0 && place == 0, ok)
	n, ok = impl.CountMeetings(soldiers, s, s, 10)
	note("CountMeetings", n == 0, ok)
	list, ok = impl.HeardBy(soldiers, []impl.Signal{s}, 10)
	note("HeardBy", len(list) == 0, ok)
	n, ok = impl.TimeAllHear(soldiers, []impl.Signal{s})
	note("TimeAllHear", n == 0, ok)
	return succeed, nonzero
}

// Promise 11: numbers of soldiers and signals that are none make every function of them fail, with zero values.
func TestSignalsThatAreNone(t *testing.T) {
	for _, soldiers := range noSignalRows() {
		for _, s := range append(signalsOf(5, 1, 10), goesRight(0, 0), goesLeft(99, 1), goesRight(soldiers-1, 1), goesLeft(soldiers/2, 2), goesRight(soldiers, 10)) {
			if succeed, nonzero := answersOfSignals(soldiers, s); len(succeed)+len(nonzero) > 0 {
				t.Error(soldiers, s, succeed, nonzero)
			}
		}
		for _, from := range [][]int{nil, {}, {0}, {0, 1}, {soldiers - 1}, {soldiers}, {0, soldiers - 1}, {99}} {
			times, ok := impl.SpreadTimes(soldiers, from)
			checkNoList(t, "SpreadTimes", times, ok)
			got, ok := impl.TimeAllKnow(soldiers, from)
			checkFails(t, "TimeAllKnow", ok, got)
		}
	}
	for _, soldiers := range signalRows() {
		for _, s := range noSignalsOf(soldiers) {
			if succeed, nonzero := answersOfSignals(soldiers, s); len(succeed)+len(nonzero) > 0 {
				t.Error(soldiers, s, succeed, nonzero)
			}
		}
		for _, s := range signalsOf(soldiers, 1, 10) {
			if succeed, _ := answersOfSignals(soldiers, s); len(succeed) != 8 {
				t.Error(soldiers, s, succeed)
			}
		}
	}
}

// Promise 11: arguments are not modified, nor is what lies behind their length, nor does that matter.
func TestSignalsAreNotModified(t *testing.T) {
	room := []impl.Signal{goesLeft(4, 2), goesRight(0, 1), goesRight(3, 3), goesRight(-5, 1), goesLeft(77, 99)}
	want := slices.Clone(room)
	from := []int{1, 4, 5, 2, -7, 100}
	for range 2 {
		for count := range 4 {
			if got := impl.AreSignals(6, room[:count]); got != (count > 0) {
				t.Error("AreSignals", count, got)
			}
		}
		who, ok := impl.HeardBy(6, room[:2], 1)
		checkList(t, "HeardBy", who, ok, []int{0, 1, 4})
		n, ok := impl.TimeAllHear(6, room[:3])
		checkInt(t, "TimeAllHear", n, ok, 5)
		times, ok := impl.SpreadTimes(6, from[:2])
		checkList(t, "SpreadTimes", times, ok, []int{1, 0, 1, 1, 0, 1})
		n, ok = impl.TimeAllKnow(6, from[:1])
		checkInt(t, "TimeAllKnow", n, ok, 4)
		impl.HeardBy(6, room, 1)
		impl.TimeAllHear(6, room)
		impl.SpreadTimes(6, from)
		impl.TimeAllKnow(6, from)
	}
	if !slices.Equal(room, want) {
		t.Error("modified", room)
	}
	checkList(t, "soldiers", from, true, []int{1, 4, 5, 2, -7, 100})
}

// Promise 11: results are new memory.
func TestSignalResultsAreNew(t *testing.T) {
	from := []int{0, 1, 2, 3, 4}
	results := func() [][]int {
		a, _ := impl.TimesAt(5, goesRight(0, 1), 0, 100)
		b, _ := impl.HeardBy(5, []impl.Signal{goesRight(0, 1)}, 3)
		c, _ := impl.SpreadTimes(5, from[:1])
		d, _ := impl.SpreadTimes(5, from)
		e, _ := impl.BestStarts(5, 3)
		f, _ := impl.WaitsFor(5, 1)
		return [][]int{a, b, c, d, e, f}
	}
	var want [][]int
	for _, result := range results() {
		want = append(want, slices.Clone(result))
		for k := range result[:cap(result)] {
			result[:cap(result)][k] = -9
		}
	}
	checkPairs(t, "again", results(), true, want)
	checkList(t, "the argument", from, true, []int{0, 1, 2, 3, 4})
}

// Nothing goes on behind a call.
func TestNewsAreOver(t *testing.T) {
	before := runtime.NumGoroutine()
	for from := range 100 {
		impl.SpreadTimes(100, []int{from})
		impl.TimeAllKnow(100, []int{from})
		impl.WaitsFor(100, from)
		impl.SpreadTimes(100, []int{from, from})
	}
	checkOver(t, before)
}

func TestNewsAtOneTime(t *testing.T) {
	checkAtOneTime(t, func() string {
		text := ""
		for soldiers := 1; soldiers <= 100; soldiers += 9 {
			times, _ := impl.SpreadTimes(soldiers, []int{soldiers / 3})
			waits, _ := impl.WaitsFor(soldiers, soldiers/4)
			text += showList(times) + showList(waits)
		}
		return text
	})
}

// Promise 11: numbers and texts of whatever size are accepted, in all orders.
func TestSignalArgumentsOfAllSizes(t *testing.T) {
	numbers := []int{math.MinInt, math.MinInt + 1, -1 << 32, -101, -1, 0, 1, 2, 10, 11, 16, 17, 99, 100, 101, 1000, 1001, 100000, 100001, 1 << 32, 1 << 62, math.MaxInt - 1, math.MaxInt}
	for _, soldiers := range numbers {
		impl.MiddleMeeting(soldiers)
		for _, n := range numbers {
			impl.LeastTimeWith(soldiers, n)
			impl.BestStarts(soldiers, n)
			impl.WaitsFor(soldiers, n)
			for _, m := range numbers {
				impl.SpreadTimes(soldiers, []int{n, m})
				impl.TimeAllKnow(soldiers, []int{m, n})
				for _, s := range []impl.Signal{goesRight(n, m), goesLeft(m, n)} {
					answersOfSignals(soldiers, s)
					impl.SignalText(s)
					impl.SignalAt(soldiers, s, n)
					impl.TimesAt(soldiers, s, m, n)
					impl.TimesAt(soldiers, s, n, m)
					impl.CountMeetings(soldiers, s, goesRight(m, n), n)
					impl.FirstMeeting(soldiers, s, goesLeft(n, n))
					impl.HeardBy(soldiers, []impl.Signal{s, goesLeft(n, m)}, m)
					impl.TimeAllHear(soldiers, []impl.Signal{goesRight(n, m), s})
				}
			}
		}
	}
	for _, text := range slices.Concat(noSignalTexts(), noPacesTexts(), noWords(), noFacings(), noOrderedRows()) {
		s, ok := impl.ParseSignal(text)
		checkNoSignal(t, text, s, ok)
	}
}
