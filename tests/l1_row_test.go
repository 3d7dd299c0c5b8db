package tests

import (
	"math"
	"slices"
	"strings"
	"testing"

	"loop.example/g01332/impl"
)

// plainTick is a tick told in another way: pairs who face each other do not overlap, so replacing their text turns all at once.
func plainTick(row string) string { return strings.ReplaceAll(row, "><", "<>") }

// plainPath returns a row and the rows behind each tick until rest.
func plainPath(row string) []string {
	path := []string{row}
	for strings.Contains(row, "><") {
		row = plainTick(row)
		path = append(path, row)
	}
	return path
}

// plainRows returns all rows of so many soldiers in the order of texts.
func plainRows(soldiers int) []string {
	rows := []string{""}
	for range soldiers {
		var longer []string
		for _, row := range rows {
			longer = append(longer, row+"<", row+">")
		}
		rows = longer
	}
	return rows
}

// longRows returns rows of MaxRow soldiers and of one less.
func longRows() []string {
	half := strings.Repeat(">", 30) + strings.Repeat("<", 30)
	return []string{
		strings.Repeat(">", 60), strings.Repeat("<", 60), half, half[1:],
		strings.Repeat("><", 30), strings.Repeat(">><", 20), strings.Repeat("<>><<", 12),
		">" + strings.Repeat("<", 59), strings.Repeat(">", 59) + "<",
		strings.Repeat("<", 30) + strings.Repeat(">", 30),
	}
}

// sampleRows returns all short rows and some of the longest ones.
func sampleRows() []string {
	rows := longRows()
	for soldiers := 1; soldiers <= 10; soldiers++ {
		rows = append(rows, plainRows(soldiers)...)
	}
	return rows
}

// noRows returns texts that are no rows.
func noRows() []string {
	return []string{
		"", " ", "<> ", " <>", "a", "><=", "0", "-", "\x00", "<\n", "\xff", "><\xff", "＜＞", "<\x00>",
		strings.Repeat("<", 61), strings.Repeat(">", 61), strings.Repeat("><", 31), strings.Repeat("<", 100000),
	}
}

func checkInt(t *testing.T, what string, got int, ok bool, want int) {
	t.Helper()
	if !ok || got != want {
		t.Errorf("%s: %d, %v, not %d", what, got, ok, want)
	}
}

func checkText(t *testing.T, what string, got string, ok bool, want string) {
	t.Helper()
	if !ok || got != want {
		t.Errorf("%s: %q, %v, not %q", what, got, ok, want)
	}
}

func checkBool(t *testing.T, what string, got bool, ok bool, want bool) {
	t.Helper()
	if !ok || got != want {
		t.Errorf("%s: %v, %v, not %v", what, got, ok, want)
	}
}

func checkList[T comparable](t *testing.T, what string, got []T, ok bool, want []T) {
	t.Helper()
	if !ok || !slices.Equal(got, want) {
		t.Errorf("%s: %v, %v, not %v", what, got, ok, want)
	}
}

func TestRowConstants(t *testing.T) {
	if impl.MaxRow != 60 || impl.MaxTraced != 12 {
		t.Error("limits", impl.MaxRow, impl.MaxTraced)
	}
}

func TestIsRow(t *testing.T) {
	for _, row := range sampleRows() {
		if !impl.IsRow(row) {
			t.Errorf("%q is a row", row)
		}
	}
	for _, text := range noRows() {
		if impl.IsRow(text) {
			t.Errorf("%q is no row", text)
		}
	}
}

func TestRowExample(t *testing.T) {
	pairs, ok := impl.FacingPairs(">><")
	checkList(t, "pairs", pairs, ok, []int{1})
	row, ok := impl.TickRow(">><")
	checkText(t, "a tick", row, ok, "><>")
	row, ok = impl.TickRow("><>")
	checkText(t, "another tick", row, ok, "<>>")
	rest, ok := impl.IsAtRest("<>>")
	checkBool(t, "rest", rest, ok, true)
	n, ok := impl.CountTurns(">><")
	checkInt(t, "turns", n, ok, 2)
	turns, ok := impl.TurnsOfEach(">><")
	checkList(t, "turns of each", turns, ok, []int{1, 2, 1})
	rows, ok := impl.RowsBefore("<>>")
	checkList(t, "before", rows, ok, []string{"<>>", "><>"})
	n, ok = impl.LongestTicks(3)
	checkInt(t, "longest", n, ok, 2)
	row, ok = impl.FirstLongest(3)
	checkText(t, "first longest", row, ok, "><<")
	for ticks, want := range []int{4, 2, 2, 0} {
		n, ok = impl.CountByTicks(3, ticks)
		checkInt(t, "by ticks", n, ok, want)
	}
}

// Promise 1: rows come to rest with as many who look to each side.
func TestRowsComeToRest(t *testing.T) {
	for _, row := range sampleRows() {
		want := strings.Repeat("<", strings.Count(row, "<")) + strings.Repeat(">", strings.Count(row, ">"))
		rest, ok := impl.RestOf(row)
		checkText(t, "RestOf "+row, rest, ok, want)
		still, ok := impl.IsAtRest(rest)
		checkBool(t, "IsAtRest "+rest, still, ok, true)
		again, ok := impl.TickRow(rest)
		checkText(t, "a tick of "+rest, again, ok, rest)
		ticks, ok := impl.TicksToRest(rest)
		checkInt(t, "TicksToRest "+rest, ticks, ok, 0)
	}
}

func TestTicksOfRows(t *testing.T) {
	for _, row := range sampleRows() {
		path := plainPath(row)
		last := len(path) - 1
		ticks, ok := impl.TicksToRest(row)
		checkInt(t, "TicksToRest "+row, ticks, ok, last)
		next, ok := impl.TickRow(row)
		checkText(t, "TickRow "+row, next, ok, plainTick(row))
		rest, ok := impl.IsAtRest(row)
		checkBool(t, "IsAtRest "+row, rest, ok, last == 0)
		for k, want := range path {
			after, ok := impl.RowAfter(row, k)
			checkText(t, "RowAfter "+row, after, ok, want)
		}
		for _, k := range []int{last + 1, last + 2, 999999, 1000000} {
			after, ok := impl.RowAfter(row, k)
			checkText(t, "RowAfter at rest "+row, after, ok, path[last])
		}
	}
}

func TestRowAfterLimits(t *testing.T) {
	for _, ticks := range []int{-1, 1000001, math.MinInt, math.MaxInt} {
		if row, ok := impl.RowAfter("><", ticks); ok || row != "" {
			t.Error("RowAfter", ticks, row, ok)
		}
	}
}

func TestTurnsOfRows(t *testing.T) {
	for _, row := range sampleRows() {
		want := make([]int, len(row))
		path := plainPath(row)
		for k := range len(path) - 1 {
			for i := range row {
				if path[k][i] != path[k+1][i] {
					want[i]++
				}
			}
		}
		turns, ok := impl.TurnsOfEach(row)
		checkList(t, "TurnsOfEach "+row, turns, ok, want)
		// A turn brings one who looks to the right past one who looks to the left.
		passes, rights := 0, 0
		for _, sign := range row {
			if sign == '>' {
				rights++
			} else {
				passes += rights
			}
		}
		n, ok := impl.CountTurns(row)
		checkInt(t, "CountTurns "+row, n, ok, passes)
	}
	n, ok := impl.CountTurns(strings.Repeat(">", 30) + strings.Repeat("<", 30))
	checkInt(t, "CountTurns of 60", n, ok, 900)
}

func TestFacingPairs(t *testing.T) {
	for _, row := range sampleRows() {
		var want []int
		for k := range row {
			if strings.HasPrefix(row[k:], "><") {
				want = append(want, k)
			}
		}
		pairs, ok := impl.FacingPairs(row)
		checkList(t, "FacingPairs "+row, pairs, ok, want)
	}
}

func TestMirrorAndTurned(t *testing.T) {
	row, ok := impl.MirrorRow(">><")
	checkText(t, "MirrorRow", row, ok, "><<")
	row, ok = impl.TurnedRow(">><")
	checkText(t, "TurnedRow", row, ok, "<<>")
	for _, row := range sampleRows() {
		var turned, mirrored string
		for _, sign := range row {
			other := map[rune]string{'<': ">", '>': "<"}[sign]
			turned += other
			mirrored = other + mirrored
		}
		got, ok := impl.TurnedRow(row)
		checkText(t, "TurnedRow "+row, got, ok, turned)
		got, ok = impl.MirrorRow(row)
		checkText(t, "MirrorRow "+row, got, ok, mirrored)
	}
}

func TestRowsBefore(t *testing.T) {
	for soldiers := 1; soldiers <= 8; soldiers++ {
		want := map[string][]string{}
		for _, row := range plainRows(soldiers) {
			next := plainTick(row)
			want[next] = append(want[next], row)
		}
		for _, row := range plainRows(soldiers) {
			rows, ok := impl.RowsBefore(row)
			checkList(t, "RowsBefore "+row, rows, ok, want[row])
			has, ok := impl.HasBefore(row)
			checkBool(t, "HasBefore "+row, has, ok, len(want[row]) > 0)
		}
	}
}

func TestRowsBeforeLimits(t *testing.T) {
	for _, row := range []string{"<<<<<<>>>>>>", "<><><><><><>", ">>>>>><<<<<<", "<>><<><>><>>"} {
		var want []string
		for _, other := range plainRows(12) {
			if plainTick(other) == row {
				want = append(want, other)
			}
		}
		rows, ok := impl.RowsBefore(row)
		checkList(t, "RowsBefore "+row, rows, ok, want)
		has, ok := impl.HasBefore(row)
		checkBool(t, "HasBefore "+row, has, ok, len(want) > 0)
	}
	for _, row := range append(longRows(), "<<<<<<>>>>>>>") {
		if rows, ok := impl.RowsBefore(row); ok || len(rows) != 0 {
			t.Error("RowsBefore", row, rows, ok)
		}
		if has, ok := impl.HasBefore(row); ok || has {
			t.Error("HasBefore", row, has, ok)
		}
	}
}

func TestCountsOfRows(t *testing.T) {
	for soldiers := 1; soldiers <= 12; soldiers++ {
		longest, first, sum := -1, "", 0
		count := map[int]int{}
		for _, row := range plainRows(soldiers) {
			ticks := len(plainPath(row)) - 1
			count[ticks]++
			sum += ticks
			if ticks > longest {
				longest, first = ticks, row
			}
		}
		n, ok := impl.LongestTicks(soldiers)
		checkInt(t, "LongestTicks", n, ok, longest)
		row, ok := impl.FirstLongest(soldiers)
		checkText(t, "FirstLongest", row, ok, first)
		n, ok = impl.SumOfTicks(soldiers)
		checkInt(t, "SumOfTicks", n, ok, sum)
		for _, ticks := range []int{0, 1, 2, 3, 5, 8, longest, longest + 1, 999, 1000} {
			n, ok = impl.CountByTicks(soldiers, ticks)
			checkInt(t, "CountByTicks", n, ok, count[ticks])
		}
	}
}

func TestCountsOfRowsLimits(t *testing.T) {
	for _, soldiers := range []int{0, -1, 13, 60, 64, math.MinInt, math.MaxInt} {
		if n, ok := impl.LongestTicks(soldiers); ok || n != 0 {
			t.Error("LongestTicks", soldiers, n, ok)
		}
		if row, ok := impl.FirstLongest(soldiers); ok || row != "" {
			t.Error("FirstLongest", soldiers, row, ok)
		}
		if n, ok := impl.SumOfTicks(soldiers); ok || n != 0 {
			t.Error("SumOfTicks", soldiers, n, ok)
		}
		if n, ok := impl.CountByTicks(soldiers, 0); ok || n != 0 {
			t.Error("CountByTicks", soldiers, n, ok)
		}
	}
	for _, ticks := range []int{-1, 1001, math.MinInt, math.MaxInt} {
		if n, ok := impl.CountByTicks(3, ticks); ok || n != 0 {
			t.Error("CountByTicks", ticks, n, ok)
		}
	}
}

func TestCountAtRest(t *testing.T) {
	for soldiers := 1; soldiers <= 60; soldiers++ {
		n, ok := impl.CountAtRest(soldiers)
		checkInt(t, "CountAtRest", n, ok, soldiers+1)
		if soldiers <= 12 {
			same, ok := impl.CountByTicks(soldiers, 0)
			checkInt(t, "CountByTicks 0", same, ok, n)
		}
	}
	for _, soldiers := range []int{0, -1, 61, math.MinInt, math.MaxInt} {
		if n, ok := impl.CountAtRest(soldiers); ok || n != 0 {
			t.Error("CountAtRest", soldiers, n, ok)
		}
	}
}

func TestNumbersOfRows(t *testing.T) {
	for soldiers := 1; soldiers <= 10; soldiers++ {
		for number, row := range plainRows(soldiers) {
			n, ok := impl.NumberOfRow(row)
			checkInt(t, "NumberOfRow "+row, n, ok, number)
			got, ok := impl.RowOfNumber(soldiers, number)
			checkText(t, "RowOfNumber", got, ok, row)
		}
	}
	for _, row := range longRows() {
		n, ok := impl.NumberOfRow(row)
		if !ok {
			t.Error("NumberOfRow", row)
		}
		got, ok := impl.RowOfNumber(len(row), n)
		checkText(t, "RowOfNumber", got, ok, row)
	}
	n, ok := impl.NumberOfRow(strings.Repeat(">", 60))
	checkInt(t, "the last row", n, ok, 1<<60-1)
	n, ok = impl.NumberOfRow(">" + strings.Repeat("<", 59))
	checkInt(t, "the row in the middle", n, ok, 1<<59)
}

func TestRowOfNumberLimits(t *testing.T) {
	for soldiers := 1; soldiers <= 60; soldiers++ {
		row, ok := impl.RowOfNumber(soldiers, 0)
		checkText(t, "the first row", row, ok, strings.Repeat("<", soldiers))
		row, ok = impl.RowOfNumber(soldiers, 1<<soldiers-1)
		checkText(t, "the last row", row, ok, strings.Repeat(">", soldiers))
		for _, number := range []int{-1, 1 << soldiers, math.MinInt, math.MaxInt} {
			if row, ok := impl.RowOfNumber(soldiers, number); ok || row != "" {
				t.Error("RowOfNumber", soldiers, number, row, ok)
			}
		}
	}
	for _, soldiers := range []int{0, -1, 61, 63, 64, 65, math.MinInt, math.MaxInt} {
		for _, number := range []int{0, 1, -1, math.MaxInt} {
			if row, ok := impl.RowOfNumber(soldiers, number); ok || row != "" {
				t.Error("RowOfNumber", soldiers, number, row, ok)
			}
		}
	}
}

func TestSoldierAlone(t *testing.T) {
	for number, row := range []string{"<", ">"} {
		pairs, ok := impl.FacingPairs(row)
		checkList(t, "FacingPairs", pairs, ok, nil)
		next, ok := impl.TickRow(row)
		checkText(t, "TickRow", next, ok, row)
		rest, ok := impl.RestOf(row)
		checkText(t, "RestOf", rest, ok, row)
		ticks, ok := impl.TicksToRest(row)
		checkInt(t, "TicksToRest", ticks, ok, 0)
		turns, ok := impl.TurnsOfEach(row)
		checkList(t, "TurnsOfEach", turns, ok, []int{0})
		rows, ok := impl.RowsBefore(row)
		checkList(t, "RowsBefore", rows, ok, []string{row})
		n, ok := impl.NumberOfRow(row)
		checkInt(t, "NumberOfRow", n, ok, number)
	}
	n, ok := impl.LongestTicks(1)
	checkInt(t, "LongestTicks", n, ok, 0)
	row, ok := impl.FirstLongest(1)
	checkText(t, "FirstLongest", row, ok, "<")
}

// failsOfRow calls every function of a text that is no row, and tells which of them succeed or return more than zero values.
func failsOfRow(text string) []string {
	var wrong []string
	fails := func(name string, isZero bool, ok bool) {
		if ok || !isZero {
			wrong = append(wrong, name)
		}
	}
	pairs, ok := impl.FacingPairs(text)
	fails("FacingPairs", len(pairs) == 0, ok)
	row, ok := impl.TickRow(text)
	fails("TickRow", row == "", ok)
	row, ok = impl.RowAfter(text, 0)
	fails("RowAfter", row == "", ok)
	n, ok := impl.TicksToRest(text)
	fails("TicksToRest", n == 0, ok)
	row, ok = impl.RestOf(text)
	fails("RestOf", row == "", ok)
	is, ok := impl.IsAtRest(text)
	fails("IsAtRest", !is, ok)
	n, ok = impl.CountTurns(text)
	fails("CountTurns", n == 0, ok)
	turns, ok := impl.TurnsOfEach(text)
	fails("TurnsOfEach", len(turns) == 0, ok)
	row, ok = impl.MirrorRow(text)
	fails("MirrorRow", row == "", ok)
	row, ok = impl.TurnedRow(text)
	fails("TurnedRow", row == "", ok)
	rows, ok := impl.RowsBefore(text)
	fails("RowsBefore", len(rows) == 0, ok)
	is, ok = impl.HasBefore(text)
	fails("HasBefore", !is, ok)
	n, ok = impl.NumberOfRow(text)
	fails("NumberOfRow", n == 0, ok)
	return wrong
}

// Promise 11: every function accepts all arguments without panicking; a text that is no row makes each one fail.
func TestTextsThatAreNoRows(t *testing.T) {
	for _, text := range noRows() {
		if wrong := failsOfRow(text); len(wrong) > 0 {
			t.Errorf("%q: %v", text, wrong)
		}
	}
	// Each byte but the two signs makes a text no row, wherever it stands.
	for b := range 256 {
		if b == '<' || b == '>' {
			continue
		}
		sign := string([]byte{byte(b)})
		for _, text := range []string{sign, sign + "><", ">" + sign + "<", "><" + sign} {
			if wrong := failsOfRow(text); impl.IsRow(text) || len(wrong) > 0 {
				t.Errorf("%q: %v", text, wrong)
			}
		}
	}
}

// Promise 11: numbers of whatever size are accepted, in all orders.
func TestRowNumbersOfAllSizes(t *testing.T) {
	numbers := []int{math.MinInt, math.MinInt + 1, -1 << 32, -61, -60, -13, -12, -2, -1, 0, 1, 2, 12, 13, 59, 60, 61,
		62, 63, 64, 65, 1000, 1001, 1000000, 1000001, 1 << 31, 1 << 32, 1 << 60, 1 << 62, math.MaxInt - 1, math.MaxInt}
	for _, a := range numbers {
		impl.LongestTicks(a)
		impl.FirstLongest(a)
		impl.CountAtRest(a)
		impl.SumOfTicks(a)
		for _, b := range numbers {
			impl.CountByTicks(a, b)
			impl.RowOfNumber(a, b)
		}
		for _, row := range append(noRows(), "<", "><", strings.Repeat("><", 30)) {
			impl.RowAfter(row, a)
		}
	}
}

// Promise 11: a result is new memory, so that writing to one does not change the next.
func TestRowResultsAreNew(t *testing.T) {
	for range 2 {
		pairs, ok := impl.FacingPairs("><><")
		checkList(t, "FacingPairs", pairs, ok, []int{0, 2})
		clear(pairs[:cap(pairs)])
		turns, ok := impl.TurnsOfEach(">><")
		checkList(t, "TurnsOfEach", turns, ok, []int{1, 2, 1})
		clear(turns[:cap(turns)])
		rows, ok := impl.RowsBefore("<>>")
		checkList(t, "RowsBefore", rows, ok, []string{"<>>", "><>"})
		clear(rows[:cap(rows)])
	}
}
