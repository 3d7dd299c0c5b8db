package tests

import (
	"cmp"
	"math"
	"slices"
	"strings"
	"testing"

	"loop.example/g01332/impl"
)

// plainRun turns the soldiers of a row from one to another one around, one sign after the other.
func plainRun(row string, from, to int) string {
	signs := []byte(row)
	for k := range signs {
		if k >= from && k <= to {
			signs[k] = '<' + '>' - signs[k]
		}
	}
	return string(signs)
}

func plainFirst(row string, many int) string { return plainRun(row, 0, many-1) }

func plainAround(row string, soldier int) string { return plainRun(row, soldier-1, soldier+1) }

// plainWindow returns what turns a window from a start on.
func plainWindow(wide int) func(row string, start int) string {
	return func(row string, start int) string { return plainRun(row, start, start+wide-1) }
}

// plainOrdered carries out orders of one kind, one after the other.
func plainOrdered(row string, orders []int, order func(row string, k int) string) string {
	for _, k := range orders {
		row = order(row, k)
	}
	return row
}

// plainReach searches all rows to which orders lead from a row, and tells the least number of orders for each.
func plainReach(row string, next func(row string) []string) map[string]int {
	fewest := map[string]int{row: 0}
	for queue := []string{row}; len(queue) > 0; queue = queue[1:] {
		for _, other := range next(queue[0]) {
			if _, there := fewest[other]; !there {
				fewest[other] = fewest[queue[0]] + 1
				queue = append(queue, other)
			}
		}
	}
	return fewest
}

// nextBy returns all rows to which one of the orders from..to of a kind leads.
func nextBy(from, to int, order func(row string, k int) string) func(row string) []string {
	return func(row string) []string {
		var rows []string
		for k := from; k <= to; k++ {
			rows = append(rows, order(row, k))
		}
		return rows
	}
}

func nextByRuns(row string) []string {
	var rows []string
	for from := range row {
		for to := from; to < len(row); to++ {
			rows = append(rows, plainRun(row, from, to))
		}
	}
	return rows
}

// plainLists tells, for each row to which orders told by 0, 1, .. below count lead, the first one of the shortest lists of them.
func plainLists(row string, count int, order func(row string, k int) string) map[string][]int {
	best := map[string][]int{}
	for _, list := range append([][]int{{}}, choices(count)...) {
		to := plainOrdered(row, list, order)
		old, there := best[to]
		if !there || cmp.Or(len(list)-len(old), slices.Compare(list, old)) < 0 {
			best[to] = list
		}
	}
	return best
}

// otherRows returns rows of as many soldiers who look differently: none, all, every second or third one, the first or the last ones, and others.
func otherRows(row string) []string {
	last := len(row) - 1
	differ := []func(k int) bool{
		func(k int) bool { return false }, func(k int) bool { return true },
		func(k int) bool { return k%2 == 0 }, func(k int) bool { return k%2 == 1 },
		func(k int) bool { return k%3 == 0 }, func(k int) bool { return k%3 == 1 }, func(k int) bool { return k%3 != 2 },
		func(k int) bool { return k == 0 }, func(k int) bool { return k == last }, func(k int) bool { return k == 0 || k == last }, func(k int) bool { return k == last/2 },
		func(k int) bool { return k > 0 }, func(k int) bool { return k < last }, func(k int) bool { return k > 0 && k < last }, func(k int) bool { return k != last/2 },
		func(k int) bool { return k <= 1 }, func(k int) bool { return k >= last-1 }, func(k int) bool { return k/4%2 == 0 }, func(k int) bool { return k/5%2 == 1 },
		func(k int) bool { return k*k%7 < 3 }, func(k int) bool { return k*k*k%11 < 5 }, func(k int) bool { return k*37%101%2 == 0 }, func(k int) bool { return (k*k+k/3)%13%2 == 1 },
	}
	var rows []string
	for _, isOther := range differ {
		other := row
		for k := range row {
			if isOther(k) {
				other = plainRun(other, k, k)
			}
		}
		rows = append(rows, other)
	}
	return rows
}

// orderedRows returns rows of 1 up to MaxOrdered soldiers.
func orderedRows() []string {
	var rows []string
	for soldiers := 1; soldiers <= 40; soldiers++ {
		rows = append(rows, strings.Repeat("<", soldiers), strings.Repeat("><<>><<<>>", 4)[:soldiers])
	}
	return append(rows, strings.Repeat(">", 40), strings.Repeat("><", 20), strings.Repeat(">", 20)+strings.Repeat("<", 20))
}

// shortRows returns all rows of up to so many soldiers.
func shortRows(most int) []string {
	var rows []string
	for soldiers := 1; soldiers <= most; soldiers++ {
		rows = append(rows, plainRows(soldiers)...)
	}
	return rows
}

// noOrderedRows returns texts that are no rows, or rows of more than MaxOrdered soldiers.
func noOrderedRows() []string {
	return append(noRows(),
		strings.Repeat("<", 41), strings.Repeat(">", 41), strings.Repeat("<>", 20)+"<", strings.Repeat("><", 21), strings.Repeat(">", 60),
		"<<<\u013c", "\u013c", "\u023e", "<\u4e3c", ">\U0001003e", "é", "<é>", "\u00bc", "\u00be", "‹›", "«»", "<\u2028", "\xef\xbb\xbf<", "\xbc", "\xbe<", "\x7f", "<,>", "<>?", "lr", "01", strings.Repeat("<", 39)+"x", "x"+strings.Repeat("<", 39))
}

// noIndices returns numbers that no soldier, window or number of soldiers of an ordered row can be.
func noIndices() []int {
	return []int{-1, -2, -40, -41, 41, 42, 60, 1 << 32, 1<<32 + 1, -1 << 32, 1 << 62, math.MinInt, math.MinInt + 1, math.MinInt + 2, math.MinInt + 40, math.MaxInt - 40, math.MaxInt - 1, math.MaxInt}
}

func checkNoList(t *testing.T, what string, got []int, ok bool) {
	t.Helper()
	if ok || len(got) > 0 {
		t.Errorf("%s: %v, %v, but it fails", what, got, ok)
	}
}

func checkNoBool(t *testing.T, what string, got bool, ok bool) {
	t.Helper()
	if ok || got {
		t.Errorf("%s: %v, %v, but it fails", what, got, ok)
	}
}

func TestOrderConstants(t *testing.T) {
	if impl.MaxOrdered != 40 {
		t.Error("limit", impl.MaxOrdered)
	}
}

func TestOrderExample(t *testing.T) {
	a, b := "<><<", ">>>>"
	n, ok := impl.FewestRuns(a, b)
	checkInt(t, "runs", n, ok, 2)
	runs, ok := impl.RunsTo(a, b)
	checkPairs(t, "runs", runs, ok, [][]int{{0, 0}, {2, 3}})
	n, ok = impl.FewestFirst(a, b)
	checkInt(t, "first orders", n, ok, 3)
	list, ok := impl.FirstsTo(a, b)
	checkList(t, "first orders", list, ok, []int{1, 2, 4})
	can, ok := impl.CanByWindows(a, b, 2)
	checkBool(t, "windows of 2", can, ok, false)
	list, ok = impl.WindowsTo(a, b, 2)
	checkNoList(t, "windows of 2", list, ok)
	can, ok = impl.CanByWindows(a, "<>>>", 2)
	checkBool(t, "windows of 2", can, ok, true)
	list, ok = impl.WindowsTo(a, "<>>>", 2)
	checkList(t, "windows of 2", list, ok, []int{2})
	can, ok = impl.CanByNeighbours(a, b)
	checkBool(t, "neighbours", can, ok, true)
	list, ok = impl.NeighboursTo(a, b)
	checkList(t, "neighbours", list, ok, []int{0, 2})
	row, ok := impl.TurnAround(a, 0)
	checkText(t, "around 0", row, ok, "><<<")
	row, ok = impl.TurnAround(row, 2)
	checkText(t, "around 2", row, ok, b)
	list, ok = impl.IdleOrders(5)
	checkList(t, "idle", list, ok, []int{0, 1, 3, 4})
	list, ok = impl.IdleOrders(4)
	checkNoList(t, "idle", list, ok)
	n, ok = impl.CountByNeighbours(5)
	checkInt(t, "count", n, ok, 16)
}

// Single orders turn just those whom they tell of, and come back to the same row if they are ordered twice.
func TestSingleOrders(t *testing.T) {
	for _, row := range append(shortRows(6), orderedRows()...) {
		for from := -2; from <= len(row)+1; from++ {
			got, ok := impl.TurnAround(row, from)
			checkOrder(t, "TurnAround "+row+showList([]int{from}), got, ok, from >= 0 && from < len(row), plainAround(row, from))
			got, ok = impl.TurnFirst(row, from)
			checkOrder(t, "TurnFirst "+row+showList([]int{from}), got, ok, from >= 1 && from <= len(row), plainFirst(row, from))
			for to := -2; to <= len(row)+1; to++ {
				got, ok = impl.TurnRun(row, from, to)
				checkOrder(t, "TurnRun "+row+showList([]int{from, to}), got, ok, from >= 0 && from <= to && to < len(row), plainRun(row, from, to))
			}
		}
	}
}

// checkOrder checks the row behind an order that is valid or not.
func checkOrder(t *testing.T, what string, got string, ok bool, isValid bool, want string) {
	t.Helper()
	if isValid {
		checkText(t, what, got, ok, want)
	} else {
		checkNoText(t, what, got, ok)
	}
}

func TestKnownOrders(t *testing.T) {
	row, ok := impl.TurnRun("<<<<<", 1, 3)
	checkText(t, "TurnRun", row, ok, "<>>><")
	row, ok = impl.TurnRun("<><><", 0, 4)
	checkText(t, "TurnRun of all", row, ok, "><><>")
	row, ok = impl.TurnRun("<<<<<", 4, 4)
	checkText(t, "TurnRun of the last", row, ok, "<<<<>")
	row, ok = impl.TurnFirst("<<<<<", 1)
	checkText(t, "TurnFirst 1", row, ok, "><<<<")
	row, ok = impl.TurnFirst("<<>><", 4)
	checkText(t, "TurnFirst 4", row, ok, ">><<<")
	row, ok = impl.TurnFirst("<<>><", 5)
	checkText(t, "TurnFirst all", row, ok, ">><<>")
	row, ok = impl.TurnAround("<<<<<", 0)
	checkText(t, "TurnAround the first", row, ok, ">><<<")
	row, ok = impl.TurnAround("<<<<<", 2)
	checkText(t, "TurnAround one in the middle", row, ok, "<>>><")
	row, ok = impl.TurnAround("<<<<<", 4)
	checkText(t, "TurnAround the last", row, ok, "<<<>>")
	row, ok = impl.TurnAround("><", 1)
	checkText(t, "TurnAround one of two", row, ok, "<>")
}

func TestOrderedTwice(t *testing.T) {
	for _, row := range orderedRows() {
		for k := range row {
			once, _ := impl.TurnAround(row, k)
			twice, ok := impl.TurnAround(once, k)
			checkText(t, "TurnAround twice", twice, ok, row)
			once, _ = impl.TurnFirst(row, k+1)
			twice, ok = impl.TurnFirst(once, k+1)
			checkText(t, "TurnFirst twice", twice, ok, row)
			once, _ = impl.TurnRun(row, k/2, k)
			twice, ok = impl.TurnRun(once, k/2, k)
			checkText(t, "TurnRun twice", twice, ok, row)
			twice, ok = impl.PlayNeighbours(row, []int{k, k})
			checkText(t, "PlayNeighbours twice", twice, ok, row)
			twice, ok = impl.PlayRuns(row, [][]int{{k / 2, k}, {k / 2, k}})
			checkText(t, "PlayRuns twice", twice, ok, row)
			twice, ok = impl.PlayWindows(row, k+1, []int{0, len(row) - k - 1, 0, len(row) - k - 1})
			checkText(t, "PlayWindows twice", twice, ok, row)
		}
	}
}

// Promise 7: runs and first orders lead from row to row by the fewest, as a search of all rows tells.
func TestFewestRunsAndFirsts(t *testing.T) {
	for _, a := range shortRows(6) {
		byRuns := plainReach(a, nextByRuns)
		byFirsts := plainReach(a, nextBy(1, len(a), plainFirst))
		for _, b := range plainRows(len(a)) {
			what := " " + a + " " + b
			n, ok := impl.FewestRuns(a, b)
			checkInt(t, "FewestRuns"+what, n, ok, byRuns[b])
			n, ok = impl.FewestFirst(a, b)
			checkInt(t, "FewestFirst"+what, n, ok, byFirsts[b])
			checkRunsAndFirsts(t, a, b)
		}
	}
	for _, a := range orderedRows() {
		for _, b := range otherRows(a) {
			checkRunsAndFirsts(t, a, b)
		}
	}
}

// checkRunsAndFirsts checks by their places that runs and first orders are those from a to b.
func checkRunsAndFirsts(t *testing.T, a, b string) {
	t.Helper()
	what := " " + a + " " + b
	var wantRuns [][]int
	var wantFirsts []int
	for k := range a {
		begins := k == 0 || a[k-1] == b[k-1]
		ends := k == len(a)-1 || a[k+1] == b[k+1]
		if a[k] != b[k] && begins {
			wantRuns = append(wantRuns, []int{k, k})
		}
		if a[k] != b[k] {
			wantRuns[len(wantRuns)-1][1] = k
		}
		// Who is to turn without the next one, or the next one without this one, is the last one of an order.
		if a[k] != b[k] && ends || a[k] == b[k] && !ends {
			wantFirsts = append(wantFirsts, k+1)
		}
	}
	runs, ok := impl.RunsTo(a, b)
	checkPairs(t, "RunsTo"+what, runs, ok, wantRuns)
	n, ok := impl.FewestRuns(a, b)
	checkInt(t, "FewestRuns"+what, n, ok, len(wantRuns))
	to, ok := impl.PlayRuns(a, runs)
	checkText(t, "PlayRuns"+what, to, ok, b)
	firsts, ok := impl.FirstsTo(a, b)
	checkList(t, "FirstsTo"+what, firsts, ok, wantFirsts)
	n, ok = impl.FewestFirst(a, b)
	checkInt(t, "FewestFirst"+what, n, ok, len(wantFirsts))
	checkText(t, "first orders"+what, plainOrdered(a, firsts, plainFirst), true, b)
}

func TestKnownRunsAndFirsts(t *testing.T) {
	known := []struct {
		a, b   string
		runs   [][]int
		firsts []int
	}{
		{"<", "<", nil, nil}, {"<", ">", [][]int{{0, 0}}, []int{1}}, {"<<", ">>", [][]int{{0, 1}}, []int{2}}, {"<<", "<>", [][]int{{1, 1}}, []int{1, 2}}, {"<<", "><", [][]int{{0, 0}}, []int{1}},
		{"><>", "><>", nil, nil}, {"><>", "<<<", [][]int{{0, 0}, {2, 2}}, []int{1, 2, 3}}, {"<<<<<", "<>><>", [][]int{{1, 2}, {4, 4}}, []int{1, 3, 4, 5}}, {"<<<<<", ">><<>", [][]int{{0, 1}, {4, 4}}, []int{2, 4, 5}},
		{">>>>>", "><<<>", [][]int{{1, 3}}, []int{1, 4}},
	}
	for _, k := range known {
		runs, ok := impl.RunsTo(k.a, k.b)
		checkPairs(t, "RunsTo "+k.a+" "+k.b, runs, ok, k.runs)
		firsts, ok := impl.FirstsTo(k.a, k.b)
		checkList(t, "FirstsTo "+k.a+" "+k.b, firsts, ok, k.firsts)
	}
	left, right := strings.Repeat("<", 40), strings.Repeat(">", 40)
	runs, ok := impl.RunsTo(left, right)
	checkPairs(t, "all turn", runs, ok, [][]int{{0, 39}})
	firsts, ok := impl.FirstsTo(left, right)
	checkList(t, "all turn", firsts, ok, []int{40})
	n, ok := impl.FewestRuns(left, strings.Repeat("<>", 20))
	checkInt(t, "every second one turns", n, ok, 20)
	n, ok = impl.FewestFirst(left, strings.Repeat("<>", 20))
	checkInt(t, "every second one turns", n, ok, 40)
	n, ok = impl.FewestFirst(left, strings.Repeat("><", 20))
	checkInt(t, "every other second one turns", n, ok, 39)
}

// Promise 7: windows lead from row to row by the fewest, as all lists of windows tell.
func TestWindowsOfShortRows(t *testing.T) {
	for _, a := range shortRows(6) {
		for wide := 1; wide <= len(a); wide++ {
			starts := len(a) - wide + 1
			best := plainLists(a, starts, plainWindow(wide))
			fewest := plainReach(a, nextBy(0, starts-1, plainWindow(wide)))
			for _, b := range plainRows(len(a)) {
				checkWindows(t, a, b, wide, best)
				if n, there := fewest[b]; there && len(best[b]) != n {
					t.Error("a search needs", n, "windows from", a, "to", b)
				}
			}
			n, ok := impl.CountByWindows(len(a), wide)
			checkInt(t, "CountByWindows"+showList([]int{len(a), wide}), n, ok, len(fewest))
		}
	}
}

// checkWindows checks what is told of windows from a to b, which best has if there are some.
func checkWindows(t *testing.T, a, b string, wide int, best map[string][]int) {
	t.Helper()
	what := " " + a + " " + b + showList([]int{wide})
	want, there := best[b]
	can, ok := impl.CanByWindows(a, b, wide)
	checkBool(t, "CanByWindows"+what, can, ok, there)
	list, ok := impl.WindowsTo(a, b, wide)
	if !there {
		checkNoList(t, "WindowsTo"+what, list, ok)
		return
	}
	checkList(t, "WindowsTo"+what, list, ok, want)
	row, ok := impl.PlayWindows(a, wide, list)
	checkText(t, "PlayWindows"+what, row, ok, b)
}

// Each window turns one of those who are as far from the first one but for a multiple of its width, so windows lead to a row just if as many of them as of any others look differently, but for a multiple of 2.
func TestWindowsOfLongRows(t *testing.T) {
	for _, a := range orderedRows() {
		for wide := 1; wide <= len(a); wide++ {
			for _, b := range otherRows(a) {
				odd := make([]int, wide)
				for k := range a {
					if a[k] != b[k] {
						odd[k%wide] ^= 1
					}
				}
				best := map[string][]int{}
				if slices.Min(odd) == slices.Max(odd) {
					list, _ := impl.WindowsTo(a, b, wide)
					best[b] = list
					if !slices.IsSorted(list) || len(slices.Compact(slices.Clone(list))) != len(list) {
						t.Error("not increasing", a, b, wide, list)
					}
				}
				checkWindows(t, a, b, wide, best)
			}
			// No two lists of windows lead to the same row, so those that are ordered are told again.
			for _, list := range sampleLists(len(a) - wide + 1) {
				b := plainOrdered(a, list, plainWindow(wide))
				checkWindows(t, a, b, wide, map[string][]int{b: list})
			}
		}
	}
}

// sampleLists returns lists of increasing numbers below count.
func sampleLists(count int) [][]int {
	var lists [][]int
	for _, row := range otherRows(strings.Repeat("<", count)) {
		var list []int
		for k, sign := range row {
			if sign == '>' {
				list = append(list, k)
			}
		}
		lists = append(lists, list)
	}
	return lists
}

func TestKnownWindows(t *testing.T) {
	known := []struct {
		a, b string
		wide int
		can  bool
		list []int
	}{
		{"<", "<", 1, true, nil}, {"<", ">", 1, true, []int{0}}, {"<<", "<>", 2, false, nil}, {"<<", ">>", 2, true, []int{0}}, {"<<", "<>", 1, true, []int{1}}, {"<<<", "><>", 2, true, []int{0, 1}}, {"<<<", ">>>", 2, false, nil},
		{"<<<", ">>>", 3, true, []int{0}}, {"<<<", "<><", 3, false, nil}, {"<<<<", "><<>", 3, true, []int{0, 1}}, {"<<<<<", "><>>>", 2, true, []int{0, 1, 3}}, {"<<<<<", "<<<<<", 5, true, nil}, {"<<<<<", "><<<>", 2, true, []int{0, 1, 2, 3}}, {"<<<<<", "<>>>>", 4, true, []int{1}},
	}
	for _, k := range known {
		best := map[string][]int{}
		if k.can {
			best[k.b] = k.list
		}
		checkWindows(t, k.a, k.b, k.wide, best)
	}
}

// Promise 7: orders to neighbours lead from row to row by the fewest, as all lists of soldiers tell.
func TestNeighboursOfShortRows(t *testing.T) {
	for _, a := range shortRows(8) {
		best := plainLists(a, len(a), plainAround)
		fewest := plainReach(a, nextBy(0, len(a)-1, plainAround))
		for _, b := range plainRows(len(a)) {
			checkNeighbours(t, a, b, best)
			if n, there := fewest[b]; there && len(best[b]) != n {
				t.Error("a search needs", n, "orders from", a, "to", b)
			}
		}
		n, ok := impl.CountByNeighbours(len(a))
		checkInt(t, "CountByNeighbours"+showList([]int{len(a)}), n, ok, len(fewest))
	}
}

// checkNeighbours checks what is told of orders to neighbours from a to b, which best has if there are some.
func checkNeighbours(t *testing.T, a, b string, best map[string][]int) {
	t.Helper()
	what := " " + a + " " + b
	want, there := best[b]
	can, ok := impl.CanByNeighbours(a, b)
	checkBool(t, "CanByNeighbours"+what, can, ok, there)
	list, ok := impl.NeighboursTo(a, b)
	if !there {
		checkNoList(t, "NeighboursTo"+what, list, ok)
		return
	}
	checkList(t, "NeighboursTo"+what, list, ok, want)
	row, ok := impl.PlayNeighbours(a, list)
	checkText(t, "PlayNeighbours"+what, row, ok, b)
}

// plainIdle returns those, of rows of one soldier less than a multiple of 3, who stand in pairs with one left out behind each.
func plainIdle(soldiers int) []int {
	var list []int
	for k := range soldiers {
		if soldiers%3 == 2 && k%3 != 2 {
			list = append(list, k)
		}
	}
	return list
}

// exchanged returns who is in just one of two increasing lists.
func exchanged(a, b []int) []int {
	var list []int
	for k := range 40 {
		if slices.Contains(a, k) != slices.Contains(b, k) {
			list = append(list, k)
		}
	}
	return list
}

// Of orders that are told, and the same with the idle ones exchanged, the fewest are told again.
func TestNeighboursOfLongRows(t *testing.T) {
	for _, a := range orderedRows() {
		idle := plainIdle(len(a))
		for _, list := range sampleLists(len(a)) {
			b := plainOrdered(a, list, plainAround)
			best := list
			if other := exchanged(list, idle); cmp.Or(len(other)-len(list), slices.Compare(other, list)) < 0 {
				best = other
			}
			checkNeighbours(t, a, b, map[string][]int{b: best})
		}
		for _, b := range otherRows(a) {
			// Each order turns an even number of the idle ones, so it leads nowhere else; all other rows are reached.
			odd := false
			for _, k := range idle {
				odd = odd != (a[k] != b[k])
			}
			can, ok := impl.CanByNeighbours(a, b)
			checkBool(t, "CanByNeighbours "+a+" "+b, can, ok, !odd)
			list, ok := impl.NeighboursTo(a, b)
			if odd {
				checkNoList(t, "NeighboursTo "+a+" "+b, list, ok)
				continue
			}
			checkText(t, "NeighboursTo "+a+" "+b, plainOrdered(a, list, plainAround), ok, b)
			if other := exchanged(list, idle); cmp.Or(len(other)-len(list), slices.Compare(other, list)) < 0 || !slices.Equal(exchanged(list, nil), list) {
				t.Error("not the first one of the fewest", a, b, list, other)
			}
		}
	}
}

func TestKnownNeighbours(t *testing.T) {
	known := []struct {
		a, b string
		can  bool
		list []int
	}{
		{"<", "<", true, nil}, {"<", ">", true, []int{0}}, {"<<", ">>", true, []int{0}}, {"<<", "<>", false, nil}, {"<<", "><", false, nil}, {"<<", "<<", true, nil}, {"<<<", ">>>", true, []int{1}}, {"<<<", "<<>", true, []int{0, 1}},
		{"<<<<<", ">><<<", true, []int{0}}, {"<<<<<", "<<<>>", true, []int{4}}, {"<<<<<", ">>>>>", true, []int{0, 3}}, {"<<<<<", "<<<<>", false, nil}, {"<<<<<", "<<><<", true, []int{0, 1}}, {"<<<<<", "<<<<<", true, nil},
		{"<<<<<", ">>><<", true, []int{1}}, {"<<<<<", "<><><", true, []int{0, 1, 2}},
	}
	for _, k := range known {
		best := map[string][]int{}
		if k.can {
			best[k.b] = k.list
		}
		checkNeighbours(t, k.a, k.b, best)
	}
	left := strings.Repeat("<", 39)
	list, ok := impl.NeighboursTo(left, strings.Repeat(">", 39))
	checkList(t, "39 soldiers", list, ok, []int{1, 4, 7, 10, 13, 16, 19, 22, 25, 28, 31, 34, 37})
	list, ok = impl.NeighboursTo(left+"<", strings.Repeat(">", 40))
	checkList(t, "40 soldiers", list, ok, []int{0, 3, 6, 9, 12, 15, 18, 21, 24, 27, 30, 33, 36, 39})
	list, ok = impl.NeighboursTo(left[:38], strings.Repeat(">", 38))
	checkList(t, "38 soldiers", list, ok, []int{0, 3, 6, 9, 12, 15, 18, 21, 24, 27, 30, 33, 36})
}

func TestIdleOrders(t *testing.T) {
	for soldiers := 1; soldiers <= 40; soldiers++ {
		list, ok := impl.IdleOrders(soldiers)
		what := "IdleOrders" + showList([]int{soldiers})
		if soldiers%3 != 2 {
			checkNoList(t, what, list, ok)
			continue
		}
		checkList(t, what, list, ok, plainIdle(soldiers))
		for _, row := range otherRows(strings.Repeat("<", soldiers)) {
			same, ok := impl.PlayNeighbours(row, list)
			checkText(t, what, same, ok, row)
		}
	}
	// All lists of soldiers are ordered, and those that leave a row as it is are told.
	for soldiers := 1; soldiers <= 11; soldiers++ {
		var want []int
		row := strings.Repeat("<", soldiers)
		for _, list := range choices(soldiers) {
			if plainOrdered(row, list, plainAround) == row && (want == nil || slices.Compare(list, want) < 0) {
				want = list
			}
		}
		list, ok := impl.IdleOrders(soldiers)
		if want == nil {
			checkNoList(t, "IdleOrders", list, ok)
		} else {
			checkList(t, "IdleOrders", list, ok, want)
		}
	}
	for _, wrong := range append(noIndices(), 0) {
		list, ok := impl.IdleOrders(wrong)
		checkNoList(t, "IdleOrders"+showList([]int{wrong}), list, ok)
	}
}

func TestCountsByOrders(t *testing.T) {
	for soldiers := 1; soldiers <= 40; soldiers++ {
		want := 1
		for k := range soldiers {
			want *= 2
			n, ok := impl.CountByWindows(soldiers, soldiers-k)
			checkInt(t, "CountByWindows"+showList([]int{soldiers, soldiers - k}), n, ok, want)
		}
		if soldiers%3 == 2 {
			want /= 2
		}
		n, ok := impl.CountByNeighbours(soldiers)
		checkInt(t, "CountByNeighbours"+showList([]int{soldiers}), n, ok, want)
		for _, wide := range append(noIndices(), 0, soldiers+1, soldiers+2) {
			n, ok = impl.CountByWindows(soldiers, wide)
			checkFails(t, "CountByWindows"+showList([]int{soldiers, wide}), ok, n)
		}
	}
	for _, wrong := range append(noIndices(), 0) {
		n, ok := impl.CountByNeighbours(wrong)
		checkFails(t, "CountByNeighbours"+showList([]int{wrong}), ok, n)
		n, ok = impl.MostRuns(wrong)
		checkFails(t, "MostRuns"+showList([]int{wrong}), ok, n)
		for _, wide := range []int{1, 2, 40, 41, wrong, wrong - 1} {
			n, ok = impl.CountByWindows(wrong, wide)
			checkFails(t, "CountByWindows"+showList([]int{wrong, wide}), ok, n)
		}
	}
	n, ok := impl.CountByWindows(40, 1)
	checkInt(t, "the most rows", n, ok, 1099511627776)
	n, ok = impl.CountByWindows(40, 40)
	checkInt(t, "windows of all", n, ok, 2)
	n, ok = impl.CountByNeighbours(40)
	checkInt(t, "the most rows", n, ok, 1099511627776)
	n, ok = impl.CountByNeighbours(2)
	checkInt(t, "two soldiers", n, ok, 2)
}

func TestMostRuns(t *testing.T) {
	for soldiers := 1; soldiers <= 10; soldiers++ {
		most := 0
		row := strings.Repeat("<", soldiers)
		for _, other := range plainRows(soldiers) {
			n, _ := impl.FewestRuns(row, other)
			most = max(most, n)
		}
		n, ok := impl.MostRuns(soldiers)
		checkInt(t, "MostRuns"+showList([]int{soldiers}), n, ok, most)
	}
	for soldiers := 1; soldiers <= 40; soldiers++ {
		n, ok := impl.MostRuns(soldiers)
		row := strings.Repeat("<", soldiers)
		runs, _ := impl.FewestRuns(row, strings.Repeat("><", 20)[:soldiers])
		checkInt(t, "MostRuns"+showList([]int{soldiers}), n, ok, runs)
	}
	for soldiers, want := range []int{1, 1, 2, 2, 3} {
		n, ok := impl.MostRuns(soldiers + 1)
		checkInt(t, "MostRuns", n, ok, want)
	}
	for soldiers, want := range map[int]int{38: 19, 39: 20, 40: 20} {
		n, ok := impl.MostRuns(soldiers)
		checkInt(t, "MostRuns", n, ok, want)
	}
}

// manyOrders returns so many numbers below count, not in order, some of them more than once.
func manyOrders(many, count int) []int {
	var list []int
	for k := range many {
		list = append(list, (k*k*7+k*5)%count)
	}
	return list
}

// Orders are played one after the other, whatever their order, up to 100 of them.
func TestPlayedOrders(t *testing.T) {
	for _, row := range orderedRows() {
		for _, many := range []int{0, 1, 2, 3, 7, 50, 99, 100, 101, 102, 1000} {
			list := manyOrders(many, len(row))
			var runs, back [][]int
			want := row
			for _, k := range list {
				from := k * k % (k + 1)
				runs, back = append(runs, []int{from, k}), append([][]int{{from, k}}, back...)
				want = plainRun(want, from, k)
			}
			got, ok := impl.PlayRuns(row, runs)
			checkOrder(t, "PlayRuns "+row, got, ok, many <= 100, want)
			got, ok = impl.PlayRuns(row, back)
			checkOrder(t, "PlayRuns "+row+" from the last one on", got, ok, many <= 100, want)
			checkPlayed(t, row, list, plainAround, impl.PlayNeighbours)
			for _, wide := range []int{1, 2, 3, len(row) / 2, len(row) - 1, len(row)} {
				if wide >= 1 && wide <= len(row) {
					checkPlayed(t, row, manyOrders(many, len(row)-wide+1), plainWindow(wide), playWindowsOf(wide))
				}
			}
		}
	}
}

func playWindowsOf(wide int) func(row string, starts []int) (string, bool) {
	return func(row string, starts []int) (string, bool) { return impl.PlayWindows(row, wide, starts) }
}

// checkPlayed checks the row behind valid orders of a kind, in their order and in others.
func checkPlayed(t *testing.T, row string, list []int, order func(row string, k int) string, play func(row string, list []int) (string, bool)) {
	t.Helper()
	want := plainOrdered(row, list, order)
	what := row + showList(list[:min(len(list), 10)])
	got, ok := play(row, list)
	checkOrder(t, "played "+what, got, ok, len(list) <= 100, want)
	other := slices.Clone(list)
	slices.Reverse(other)
	got, ok = play(row, other)
	checkOrder(t, "played from the last one on "+what, got, ok, len(list) <= 100, want)
	slices.Sort(other)
	got, ok = play(row, other)
	checkOrder(t, "played in order "+what, got, ok, len(list) <= 100, want)
}

func TestKnownPlays(t *testing.T) {
	row, ok := impl.PlayRuns("<><<", [][]int{{0, 0}, {2, 3}})
	checkText(t, "PlayRuns", row, ok, ">>>>")
	row, ok = impl.PlayRuns("<<<<", [][]int{{0, 2}, {1, 3}, {1, 1}})
	checkText(t, "runs that overlap", row, ok, ">><>")
	row, ok = impl.PlayRuns("<<<<", [][]int{{1, 2}, {0, 3}, {1, 2}})
	checkText(t, "a run twice", row, ok, ">>>>")
	row, ok = impl.PlayWindows("<<<<<", 3, []int{2, 0})
	checkText(t, "PlayWindows", row, ok, ">><>>")
	row, ok = impl.PlayWindows("<<<<<", 2, []int{3, 3, 3})
	checkText(t, "a window three times", row, ok, "<<<>>")
	row, ok = impl.PlayNeighbours("<<<<<", []int{0, 1, 3, 4})
	checkText(t, "idle orders", row, ok, "<<<<<")
	row, ok = impl.PlayNeighbours("<<<<<", []int{4, 2, 4, 4})
	checkText(t, "an order three times", row, ok, "<>><>")
	row, ok = impl.PlayRuns("<><", nil)
	checkText(t, "no runs", row, ok, "<><")
	row, ok = impl.PlayWindows("<><", 3, nil)
	checkText(t, "no windows", row, ok, "<><")
	row, ok = impl.PlayNeighbours("<><", []int{})
	checkText(t, "no orders", row, ok, "<><")
}

// One order that is not valid, at any place of a list, makes it fail.
func TestOneOrderThatIsNone(t *testing.T) {
	for _, row := range []string{"<", "<>", "><<><", strings.Repeat("><", 20)} {
		last := len(row) - 1
		wrongRuns := [][]int{nil, {}, {0}, {last}, {0, 0, 0}, {0, last, last}, {last, last, 0, 0}, {last + 1, last + 1}, {last, last + 1}, {0, last + 1}, {-1, 0}, {-1, -1}, {-1, last}, {1, 0}, {last, last - 1}, {0, -1}}
		for _, wrong := range noIndices() {
			wrongRuns = append(wrongRuns, []int{wrong}, []int{wrong, 0}, []int{0, wrong}, []int{wrong, last}, []int{last, wrong}, []int{wrong, wrong}, []int{0, 0, wrong}, []int{wrong, 0, 0})
		}
		for _, wrong := range wrongRuns {
			for at := range 4 {
				runs := slices.Insert([][]int{{0, last}, {last, last}, {0, 0}}, at, wrong)
				got, ok := impl.PlayRuns(row, runs)
				checkNoText(t, "PlayRuns "+row+" with"+showList(wrong), got, ok)
			}
			got, ok := impl.PlayRuns(row, [][]int{wrong})
			checkNoText(t, "PlayRuns "+row+" of"+showList(wrong), got, ok)
			// Even if it is told twice, it is none.
			got, ok = impl.PlayRuns(row, [][]int{wrong, wrong})
			checkNoText(t, "PlayRuns "+row+" of twice"+showList(wrong), got, ok)
		}
		for _, wrong := range append(noIndices(), last+1, last+2) {
			checkNoPlay(t, row, wrong, 0, last, impl.PlayNeighbours)
			for wide := 1; wide <= len(row); wide++ {
				checkNoPlay(t, row, wrong, 0, len(row)-wide, playWindowsOf(wide))
				checkNoPlay(t, row, len(row)-wide+1, 0, len(row)-wide, playWindowsOf(wide))
			}
		}
	}
}

// checkNoPlay checks that orders fail with a wrong one between two that are valid, before them and behind them, and with that one alone.
func checkNoPlay(t *testing.T, row string, wrong, a, b int, play func(row string, list []int) (string, bool)) {
	t.Helper()
	for _, list := range [][]int{{wrong}, {wrong, wrong}, {wrong, a, b}, {a, wrong, b}, {a, b, wrong}} {
		got, ok := play(row, list)
		checkNoText(t, "played "+row+showList(list), got, ok)
	}
	if got, ok := play(row, []int{a, b}); !ok {
		t.Error("not played", row, a, b, got)
	}
}

func TestWidthsThatAreNone(t *testing.T) {
	for _, row := range orderedRows() {
		for _, wide := range append(noIndices(), 0, len(row)+1, len(row)+2) {
			what := row + showList([]int{wide})
			for _, starts := range [][]int{nil, {0}, {0, 0}, {-1}, {wide}} {
				got, ok := impl.PlayWindows(row, wide, starts)
				checkNoText(t, "PlayWindows "+what, got, ok)
			}
			for _, b := range otherRows(row) {
				can, ok := impl.CanByWindows(row, b, wide)
				checkNoBool(t, "CanByWindows "+what, can, ok)
				list, ok := impl.WindowsTo(row, b, wide)
				checkNoList(t, "WindowsTo "+what, list, ok)
			}
		}
		for _, wrong := range noIndices() {
			for _, k := range []int{0, len(row) - 1, wrong} {
				got, ok := impl.TurnRun(row, k, wrong)
				checkNoText(t, "TurnRun "+row+showList([]int{k, wrong}), got, ok)
				got, ok = impl.TurnRun(row, wrong, k)
				checkNoText(t, "TurnRun "+row+showList([]int{wrong, k}), got, ok)
			}
			got, ok := impl.TurnFirst(row, wrong)
			checkNoText(t, "TurnFirst "+row+showList([]int{wrong}), got, ok)
			got, ok = impl.TurnAround(row, wrong)
			checkNoText(t, "TurnAround "+row+showList([]int{wrong}), got, ok)
		}
	}
}

// Rows that are alike need no order.
func TestRowsThatAreAlike(t *testing.T) {
	for _, row := range append(orderedRows(), shortRows(5)...) {
		n, ok := impl.FewestRuns(row, row)
		checkInt(t, "FewestRuns", n, ok, 0)
		runs, ok := impl.RunsTo(row, row)
		checkPairs(t, "RunsTo", runs, ok, nil)
		n, ok = impl.FewestFirst(row, row)
		checkInt(t, "FewestFirst", n, ok, 0)
		list, ok := impl.FirstsTo(row, row)
		checkList(t, "FirstsTo", list, ok, nil)
		for wide := 1; wide <= len(row); wide++ {
			checkWindows(t, row, row, wide, map[string][]int{row: nil})
		}
		checkNeighbours(t, row, row, map[string][]int{row: nil})
	}
}

func TestOrdersToOneSoldier(t *testing.T) {
	for a, b := range map[string]string{"<": ">", ">": "<"} {
		row, ok := impl.TurnRun(a, 0, 0)
		checkText(t, "TurnRun", row, ok, b)
		row, ok = impl.TurnFirst(a, 1)
		checkText(t, "TurnFirst", row, ok, b)
		row, ok = impl.TurnAround(a, 0)
		checkText(t, "TurnAround", row, ok, b)
		runs, ok := impl.RunsTo(a, b)
		checkPairs(t, "RunsTo", runs, ok, [][]int{{0, 0}})
		list, ok := impl.FirstsTo(a, b)
		checkList(t, "FirstsTo", list, ok, []int{1})
		checkWindows(t, a, b, 1, map[string][]int{b: {0}})
		checkNeighbours(t, a, b, map[string][]int{b: {0}})
	}
	for _, count := range []func(int) (int, bool){impl.CountByNeighbours, func(soldiers int) (int, bool) { return impl.CountByWindows(soldiers, 1) }} {
		n, ok := count(1)
		checkInt(t, "rows", n, ok, 2)
	}
	n, ok := impl.MostRuns(1)
	checkInt(t, "MostRuns", n, ok, 1)
	list, ok := impl.IdleOrders(1)
	checkNoList(t, "IdleOrders", list, ok)
}

// answersOfOrders calls every function of rows that are ordered, and tells by name which of them succeed and which return more than zero values.
func answersOfOrders(a, b string) (succeed, nonzero []string) {
	note := func(name string, isZero bool, ok bool) {
		if ok {
			succeed = append(succeed, name)
		}
		if !isZero {
			nonzero = append(nonzero, name)
		}
	}
	for name, row := range map[string]string{"a": a, "b": b} {
		got, ok := impl.TurnRun(row, 0, 0)
		note("TurnRun "+name, got == "", ok)
		got, ok = impl.TurnFirst(row, 1)
		note("TurnFirst "+name, got == "", ok)
		got, ok = impl.TurnAround(row, 0)
		note("TurnAround "+name, got == "", ok)
		got, ok = impl.PlayRuns(row, nil)
		note("PlayRuns "+name, got == "", ok)
		got, ok = impl.PlayWindows(row, 1, nil)
		note("PlayWindows "+name, got == "", ok)
		got, ok = impl.PlayNeighbours(row, nil)
		note("PlayNeighbours "+name, got == "", ok)
	}
	both, nonzeroBoth := answersOfTwoRows(a, b)
	return append(succeed, both...), append(nonzero, nonzeroBoth...)
}

// answersOfTwoRows calls every function of two rows in the same way.
func answersOfTwoRows(a, b string) (succeed, nonzero []string) {
	note := func(name string, isZero bool, ok bool) {
		if ok {
			succeed = append(succeed, name)
		}
		if !isZero {
			nonzero = append(nonzero, name)
		}
	}
	n, ok := impl.FewestRuns(a, b)
	note("FewestRuns", n == 0, ok)
	runs, ok := impl.RunsTo(a, b)
	note("RunsTo", len(runs) == 0, ok)
	n, ok = impl.FewestFirst(a, b)
	note("FewestFirst", n == 0, ok)
	list, ok := impl.FirstsTo(a, b)
	note("FirstsTo", len(list) == 0, ok)
	can, ok := impl.CanByWindows(a, b, 1)
	note("CanByWindows", !can, ok)
	list, ok = impl.WindowsTo(a, b, 1)
	note("WindowsTo", len(list) == 0, ok)
	can, ok = impl.CanByNeighbours(a, b)
	note("CanByNeighbours", !can, ok)
	list, ok = impl.NeighboursTo(a, b)
	note("NeighboursTo", len(list) == 0, ok)
	return succeed, nonzero
}

// Promise 11: texts that are no ordered rows make every function fail, with zero values.
func TestTextsThatAreNoOrderedRows(t *testing.T) {
	texts := noOrderedRows()
	for code := range 256 {
		if code != '<' && code != '>' {
			sign := string([]byte{byte(code)})
			texts = append(texts, sign, sign+"<>", "<"+sign+">", "<>"+sign)
		}
	}
	for _, text := range texts {
		if succeed, nonzero := answersOfOrders(text, text); len(succeed)+len(nonzero) > 0 {
			t.Errorf("%q: %v, %v", text, succeed, nonzero)
		}
		for _, row := range []string{"<", "<><", strings.Repeat(">", min(max(len(text), 1), 40))} {
			for _, pair := range [][2]string{{text, row}, {row, text}} {
				if succeed, nonzero := answersOfTwoRows(pair[0], pair[1]); len(succeed)+len(nonzero) > 0 {
					t.Errorf("%q: %v, %v", pair, succeed, nonzero)
				}
			}
		}
	}
	for _, row := range orderedRows() {
		if succeed, nonzero := answersOfOrders(row, plainRun(row, 0, min(len(row)-1, 1))); len(succeed) != 20 || len(nonzero) != 20 {
			t.Error(row, succeed, nonzero)
		}
	}
}

// Promise 11: two rows of different lengths make every function of two rows fail.
func TestRowsOfDifferentLengths(t *testing.T) {
	for soldiers := 0; soldiers <= 42; soldiers++ {
		for others := 0; others <= 42; others++ {
			a, b := strings.Repeat("<", soldiers), strings.Repeat("<", max(others-1, 0))+strings.Repeat(">", min(others, 1))
			succeed, _ := answersOfTwoRows(a, b)
			isPair := soldiers == others && soldiers >= 1 && soldiers <= 40
			if !isPair && len(succeed) > 0 || isPair && len(succeed) < 6 {
				t.Error(soldiers, others, succeed)
			}
		}
	}
}

// Promise 11: arguments are not modified, nor is what lies behind the length of lists, nor does that matter.
func TestOrdersAreNotModified(t *testing.T) {
	list := []int{3, 0, 3, 1, -5, 99}
	runs := [][]int{{3, 4, -1}, {0, 2, 7}, {3, 4, 8}, {0}, nil}
	given := [][]int{runs[0][:2], runs[1][:2], runs[2][:2], runs[3], runs[4]}
	for range 2 {
		row, ok := impl.PlayNeighbours("<<<<<", list[:4])
		checkText(t, "PlayNeighbours", row, ok, "<<><<")
		row, ok = impl.PlayWindows("<<<<<", 2, list[:4])
		checkText(t, "PlayWindows", row, ok, "><><<")
		row, ok = impl.PlayRuns("<<<<<", given[:3])
		checkText(t, "PlayRuns", row, ok, ">>><<")
	}
	for count := range 7 {
		impl.PlayNeighbours("<<<<<", list[:count])
		impl.PlayWindows("<<<<<", 3, list[:count])
		impl.PlayRuns("<<<<<", given[:min(count, 5)])
	}
	checkList(t, "the list", list, true, []int{3, 0, 3, 1, -5, 99})
	checkPairs(t, "the runs", runs, true, [][]int{{3, 4, -1}, {0, 2, 7}, {3, 4, 8}, {0}, nil})
	checkPairs(t, "the runs that are given", given, true, [][]int{{3, 4}, {0, 2}, {3, 4}, {0}, nil})
}

// Promise 11: results are new memory, and no two rows of one result share any.
func TestOrderResultsAreNew(t *testing.T) {
	for range 2 {
		for k := range 3 {
			runs, ok := impl.RunsTo("<<<<<", "><><>")
			checkPairs(t, "RunsTo", runs, ok, [][]int{{0, 0}, {2, 2}, {4, 4}})
			clear(runs[k][:cap(runs[k])])
			checkPairs(t, "those before", runs[:k], true, [][]int{{0, 0}, {2, 2}, {4, 4}}[:k])
			checkPairs(t, "those behind", runs[k+1:], true, [][]int{{0, 0}, {2, 2}, {4, 4}}[k+1:])
			clear(runs[:cap(runs)])
		}
		list, ok := impl.FirstsTo("<<<<<", "><><>")
		checkList(t, "FirstsTo", list, ok, []int{1, 2, 3, 4, 5})
		clear(list[:cap(list)])
		list, ok = impl.WindowsTo("<<<<<", ">><>>", 2)
		checkList(t, "WindowsTo", list, ok, []int{0, 3})
		clear(list[:cap(list)])
		list, ok = impl.NeighboursTo("<<<<<", ">>>>>")
		checkList(t, "NeighboursTo", list, ok, []int{0, 3})
		clear(list[:cap(list)])
		list, ok = impl.IdleOrders(5)
		checkList(t, "IdleOrders", list, ok, []int{0, 1, 3, 4})
		clear(list[:cap(list)])
	}
}

// Promise 11: numbers and texts of whatever size are accepted, in all orders.
func TestOrderArgumentsOfAllSizes(t *testing.T) {
	numbers := append(noIndices(), 0, 1, 2, 3, 5, 38, 39, 40, 99, 100, 101)
	rows := append(noOrderedRows(), "<", "><", "<><<", strings.Repeat("><", 20), strings.Repeat("<", 40))
	for _, a := range rows {
		for _, b := range rows {
			answersOfOrders(a, b)
			for _, n := range numbers {
				impl.CanByWindows(a, b, n)
				impl.WindowsTo(a, b, n)
			}
		}
		for _, n := range numbers {
			impl.TurnFirst(a, n)
			impl.TurnAround(a, n)
			for _, m := range numbers {
				impl.TurnRun(a, n, m)
				impl.PlayRuns(a, [][]int{{n}, {n, m}, {m, n, n}})
				impl.PlayRuns(a, [][]int{{n, m}, {m, n}})
				impl.PlayWindows(a, n, []int{m, n})
				impl.PlayWindows(a, 1, []int{m, n})
				impl.PlayNeighbours(a, []int{n, m})
			}
		}
	}
	for _, n := range numbers {
		impl.CountByNeighbours(n)
		impl.IdleOrders(n)
		impl.MostRuns(n)
		for _, m := range numbers {
			impl.CountByWindows(n, m)
		}
	}
}
