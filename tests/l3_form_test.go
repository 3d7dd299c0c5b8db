package tests

import (
	"math"
	"math/big"
	"slices"
	"testing"

	"loop.example/g01332/impl"
)

// wrongSoldiers returns numbers of soldiers that there cannot be.
func wrongSoldiers() []int {
	return []int{0, -1, -7, -1000000, 1000001, 1000002, 1 << 32, 1<<32 + 1, math.MinInt, math.MinInt + 1, math.MaxInt - 1, math.MaxInt}
}

// sampleSoldiers returns the least numbers of soldiers, the greatest ones, and some that have many parts.
func sampleSoldiers() []int {
	numbers := []int{5525, 27625, 71825, 160225, 720720, 801125, 831600, 999983}
	for n := 1; n <= 3000; n++ {
		numbers = append(numbers, n)
	}
	for n := 1000000 - 60; n <= 1000000; n++ {
		numbers = append(numbers, n)
	}
	return numbers
}

func plainRectangles(soldiers int) [][]int {
	var all [][]int
	for rows := 1; rows <= 1000; rows++ {
		columns := soldiers / rows
		if columns*rows == soldiers && rows <= columns {
			all = append(all, []int{rows, columns})
		}
	}
	return all
}

// plainRing counts the soldiers of a hollow square that stand fewer than thick places from an edge.
func plainRing(side, thick int) int {
	count := 0
	for row := range side {
		for column := range side {
			if min(row, column, side-1-row, side-1-column) < thick {
				count++
			}
		}
	}
	return count
}

// plainHollows tries all sides, and how thick they can be.
func plainHollows(soldiers int) [][]int {
	var all [][]int
	for side := 3; 4*(side-1) <= soldiers; side++ {
		for thick := 1; side-2*thick >= 1; thick++ {
			count := side*side - (side-2*thick)*(side-2*thick)
			if count == soldiers {
				all = append(all, []int{side, thick})
			}
			if count >= soldiers {
				break
			}
		}
	}
	return all
}

func plainTwoSquares(soldiers int) [][]int {
	var all [][]int
	for a := 1; a <= 1000; a++ {
		for b := a; a*a+b*b <= soldiers; b++ {
			if a*a+b*b == soldiers {
				all = append(all, []int{a, b})
			}
		}
	}
	return all
}

// plainStep is the least common multiple, told with numbers of any size.
func plainStep(columns []int) int {
	step := big.NewInt(1)
	for _, width := range columns {
		wide := big.NewInt(int64(width))
		part := new(big.Int).GCD(nil, nil, step, wide)
		step.Mul(step, wide.Div(wide, part))
	}
	return int(step.Int64())
}

func leaves(number int, columns, left []int) bool {
	for k, width := range columns {
		if number%width != left[k] {
			return false
		}
	}
	return true
}

// agree reports whether of any two columns as many are left over of what divides both: just then there is a number.
func agree(columns, left []int) bool {
	for i := range columns {
		for j := range i {
			common := int(new(big.Int).GCD(nil, nil, big.NewInt(int64(columns[i])), big.NewInt(int64(columns[j]))).Int64())
			if left[i]%common != left[j]%common {
				return false
			}
		}
	}
	return true
}

// allLeft returns all that can be left over in columns.
func allLeft(columns []int) [][]int {
	all := [][]int{nil}
	for _, width := range columns {
		var longer [][]int
		for _, left := range all {
			for over := range width {
				longer = append(longer, append(slices.Clone(left), over))
			}
		}
		all = longer
	}
	return all
}

// shortColumns returns all lists of 1..3 of some small columns.
func shortColumns() [][]int {
	var all [][]int
	lists := [][]int{nil}
	for range 3 {
		var longer [][]int
		for _, list := range lists {
			for _, width := range []int{1, 2, 3, 4, 6, 9} {
				longer = append(longer, append(slices.Clone(list), width))
			}
		}
		lists = longer
		all = append(all, lists...)
	}
	return all
}

// wideColumns returns lists of up to six columns up to MaxColumns.
func wideColumns() [][]int {
	return [][]int{
		{1}, {1000}, {1, 1, 1, 1, 1, 1}, {1000, 1000, 1000, 1000, 1000, 1000}, {1000, 999, 997, 991, 989, 983},
		{983, 989, 991, 997, 999, 1000}, {997, 991, 983, 977, 971, 967}, {512, 729, 625, 343, 121, 169}, {1000, 500, 250, 125, 8, 2},
		{960, 840, 720, 600, 990, 1000}, {6, 10, 15, 21, 35, 14}, {2, 4, 8, 16, 32, 64}, {3, 5, 7, 11, 13}, {1000, 999, 1},
		{743, 347, 865, 236, 19}, {379, 879, 916, 113, 29}, {4, 3, 743, 347, 865, 1000},
	}
}

// noColumns returns lists that are no lists of columns.
func noColumns() [][]int {
	lists := [][]int{nil, {}, {1, 1, 1, 1, 1, 1, 1}, {2, 3, 5, 7, 11, 13, 17}, slices.Repeat([]int{1000}, 7), slices.Repeat([]int{3}, 1000)}
	for _, width := range []int{0, -1, -3, 1001, 1002, 1 << 32, 1<<32 + 3, math.MinInt, math.MinInt + 1, math.MaxInt} {
		lists = append(lists, []int{width}, []int{width, 5}, []int{5, width}, []int{5, width, 5}, []int{5, 5, 5, 5, 5, width})
	}
	return lists
}

func checkTwo(t *testing.T, what string, a, b int, ok bool, wantA, wantB int) {
	t.Helper()
	if !ok || a != wantA || b != wantB {
		t.Errorf("%s: %d, %d, %v, not %d, %d", what, a, b, ok, wantA, wantB)
	}
}

func checkFails(t *testing.T, what string, ok bool, results ...int) {
	t.Helper()
	if ok || slices.ContainsFunc(results, func(result int) bool { return result != 0 }) {
		t.Errorf("%s: %v, %v, but it fails", what, results, ok)
	}
}

func TestFormConstants(t *testing.T) {
	if impl.MaxSoldiers != 1000000 || impl.MaxColumns != 1000 || impl.MaxTurned != 200 {
		t.Error("limits", impl.MaxSoldiers, impl.MaxColumns, impl.MaxTurned)
	}
}

func TestFormExample(t *testing.T) {
	pairs, ok := impl.RectanglesOf(12)
	checkPairs(t, "rectangles", pairs, ok, [][]int{{1, 12}, {2, 6}, {3, 4}})
	pairs, ok = impl.HollowsOf(32)
	checkPairs(t, "hollows", pairs, ok, [][]int{{6, 2}, {9, 1}})
	side, over, ok := impl.GreatestHollow(40, 2)
	checkTwo(t, "greatest hollow", side, over, ok, 7, 0)
	n, ok := impl.LeastWith([]int{3, 5, 7}, []int{2, 3, 2})
	checkInt(t, "least", n, ok, 23)
	n, ok = impl.StepOf([]int{3, 5, 7})
	checkInt(t, "step", n, ok, 105)
	pairs, ok = impl.TwoSquares(50)
	checkPairs(t, "two squares", pairs, ok, [][]int{{1, 7}, {5, 5}})
	both, ok := impl.SquareTriangles(1000)
	checkList(t, "square triangles", both, ok, []int{1, 36})
	turned, ok := impl.TurnFormation(2, 3)
	checkList(t, "turned", turned, ok, []int{3, 0, 4, 1, 5, 2})
	row, column, ok := impl.SnakePlace(3, 3)
	checkTwo(t, "snake", row, column, ok, 1, 2)
}

// Promise 3: rectangles have just so many.
func TestRectangles(t *testing.T) {
	for _, soldiers := range sampleSoldiers() {
		pairs, ok := impl.RectanglesOf(soldiers)
		checkPairs(t, "RectanglesOf"+showList([]int{soldiers}), pairs, ok, plainRectangles(soldiers))
	}
	for _, soldiers := range wrongSoldiers() {
		if pairs, ok := impl.RectanglesOf(soldiers); ok || len(pairs) > 0 {
			t.Error("RectanglesOf", soldiers, pairs, ok)
		}
	}
}

// Promise 3: hollow squares have just so many.
func TestHollows(t *testing.T) {
	for _, soldiers := range sampleSoldiers() {
		pairs, ok := impl.HollowsOf(soldiers)
		checkPairs(t, "HollowsOf"+showList([]int{soldiers}), pairs, ok, plainHollows(soldiers))
	}
	for _, soldiers := range wrongSoldiers() {
		if pairs, ok := impl.HollowsOf(soldiers); ok || len(pairs) > 0 {
			t.Error("HollowsOf", soldiers, pairs, ok)
		}
	}
	pairs, ok := impl.HollowsOf(1000000)
	if !ok || len(pairs) == 0 || !slices.Equal(pairs[len(pairs)-1], []int{250001, 1}) {
		t.Error("the greatest side is", pairs, ok)
	}
}

func TestCountHollow(t *testing.T) {
	for side := 3; side <= 1000; side++ {
		for thick := 1; thick <= side; thick++ {
			n, ok := impl.CountHollow(side, thick)
			if side < 2*thick+1 {
				checkFails(t, "CountHollow"+showList([]int{side, thick}), ok, n)
				continue
			}
			want := side*side - (side-2*thick)*(side-2*thick)
			if side <= 40 {
				want = plainRing(side, thick)
			}
			checkInt(t, "CountHollow"+showList([]int{side, thick}), n, ok, want)
		}
	}
	n, ok := impl.CountHollow(999, 499)
	checkInt(t, "one empty place", n, ok, 998000)
	n, ok = impl.CountHollow(1000, 499)
	checkInt(t, "four empty places", n, ok, 999996)
	wrong := [][2]int{{1000, 500}, {999, 500}, {1001, 1}, {1001, 500}, {2, 1}, {1, 1}, {0, 1}, {-3, 1}, {-3, -5}, {3, 0}, {3, -1}, {3, 2}, {9, -1000},
		{3, 1<<62 + 1}, {1000, 1 << 62}, {3, math.MaxInt}, {3, math.MinInt}, {1000, math.MinInt}, {math.MaxInt, 1}, {math.MinInt, 1}, {math.MaxInt, math.MaxInt}, {math.MinInt, math.MinInt}}
	for _, w := range wrong {
		n, ok := impl.CountHollow(w[0], w[1])
		checkFails(t, "CountHollow"+showList(w[:]), ok, n)
	}
}

func TestHollowsAreCounted(t *testing.T) {
	for _, soldiers := range sampleSoldiers() {
		pairs, _ := impl.HollowsOf(soldiers)
		for _, pair := range pairs {
			if pair[0] <= 1000 {
				n, ok := impl.CountHollow(pair[0], pair[1])
				checkInt(t, "CountHollow"+showList(pair), n, ok, soldiers)
			}
			side, over, ok := impl.GreatestHollow(soldiers, pair[1])
			checkTwo(t, "GreatestHollow"+showList(pair), side, over, ok, pair[0], 0)
		}
	}
}

func TestGreatestHollow(t *testing.T) {
	for _, soldiers := range sampleSoldiers() {
		for _, thick := range []int{1, 2, 3, 4, 5, 7, 10, 20, 27, 28, 300, 499, 500, 999, 1000} {
			what := "GreatestHollow" + showList([]int{soldiers, thick})
			want := 2 * thick
			for 4*thick*(want+1-thick) <= soldiers {
				want++
			}
			side, over, ok := impl.GreatestHollow(soldiers, thick)
			if want == 2*thick {
				checkFails(t, what, ok, side, over)
				continue
			}
			checkTwo(t, what, side, over, ok, want, soldiers-want*want+(want-2*thick)*(want-2*thick))
		}
	}
	known := [][4]int{{8, 1, 3, 0}, {9, 1, 3, 1}, {11, 1, 3, 3}, {12, 1, 4, 0}, {24, 2, 5, 0}, {31, 2, 5, 7}, {1000000, 1, 250001, 0}, {999999, 1, 250000, 3}, {1000000, 499, 1000, 4}}
	for _, k := range known {
		side, over, ok := impl.GreatestHollow(k[0], k[1])
		checkTwo(t, "GreatestHollow"+showList(k[:2]), side, over, ok, k[2], k[3])
	}
	wrong := [][2]int{{7, 1}, {1, 1}, {23, 2}, {1000000, 500}, {1000000, 1000}, {1000000, 1001}, {40, 0}, {40, -1}, {40, -40}, {40, math.MinInt}, {40, math.MaxInt}, {1000000, 1 << 62}}
	for _, soldiers := range wrongSoldiers() {
		wrong = append(wrong, [2]int{soldiers, 1}, [2]int{soldiers, 2})
	}
	for _, w := range wrong {
		side, over, ok := impl.GreatestHollow(w[0], w[1])
		checkFails(t, "GreatestHollow"+showList(w[:]), ok, side, over)
	}
}

func TestSquaresAndTriangles(t *testing.T) {
	numbers := sampleSoldiers()
	for side := 1; side <= 1000; side++ {
		for by := -1; by <= 1; by++ {
			numbers = append(numbers, side*side+by, side*(side+1)/2+by, side*(2*side+1)/4+by)
		}
	}
	for _, soldiers := range numbers {
		if soldiers < 1 || soldiers > 1000000 {
			continue
		}
		side, over, ok := impl.SquareOf(soldiers)
		if !ok || side < 1 || over != soldiers-side*side || over < 0 || over > 2*side {
			t.Error("SquareOf", soldiers, side, over, ok)
		}
		rows, over, ok := impl.TriangleOf(soldiers)
		if !ok || rows < 1 || over != soldiers-rows*(rows+1)/2 || over < 0 || over > rows {
			t.Error("TriangleOf", soldiers, rows, over, ok)
		}
	}
	side, over, ok := impl.SquareOf(1000000)
	checkTwo(t, "the greatest square", side, over, ok, 1000, 0)
	side, over, ok = impl.SquareOf(999999)
	checkTwo(t, "one less", side, over, ok, 999, 1998)
	rows, over, ok := impl.TriangleOf(1000000)
	checkTwo(t, "the greatest triangle", rows, over, ok, 1413, 1009)
	for _, soldiers := range wrongSoldiers() {
		side, over, ok := impl.SquareOf(soldiers)
		checkFails(t, "SquareOf"+showList([]int{soldiers}), ok, side, over)
		rows, over, ok := impl.TriangleOf(soldiers)
		checkFails(t, "TriangleOf"+showList([]int{soldiers}), ok, rows, over)
	}
}

func TestTwoSquares(t *testing.T) {
	for _, soldiers := range sampleSoldiers() {
		pairs, ok := impl.TwoSquares(soldiers)
		checkPairs(t, "TwoSquares"+showList([]int{soldiers}), pairs, ok, plainTwoSquares(soldiers))
	}
	pairs, ok := impl.TwoSquares(2)
	checkPairs(t, "the least", pairs, ok, [][]int{{1, 1}})
	pairs, ok = impl.TwoSquares(1000000)
	checkPairs(t, "the greatest", pairs, ok, [][]int{{280, 960}, {352, 936}, {600, 800}})
	for _, soldiers := range wrongSoldiers() {
		if pairs, ok := impl.TwoSquares(soldiers); ok || len(pairs) > 0 {
			t.Error("TwoSquares", soldiers, pairs, ok)
		}
	}
}

func TestSquareTriangles(t *testing.T) {
	triangles := map[int]bool{}
	for rows, sum := 1, 1; sum <= 1000000; rows, sum = rows+1, sum+rows+1 {
		triangles[sum] = true
	}
	var all []int
	for side := 1; side <= 1000; side++ {
		if triangles[side*side] {
			all = append(all, side*side)
		}
	}
	checkList(t, "known", all, true, []int{1, 36, 1225, 41616})
	for _, most := range append(sampleSoldiers(), 1, 2, 35, 36, 37, 1224, 1225, 1226, 41615, 41616, 41617, 999999, 1000000) {
		var want []int
		for _, number := range all {
			if number <= most {
				want = append(want, number)
			}
		}
		both, ok := impl.SquareTriangles(most)
		checkList(t, "SquareTriangles"+showList([]int{most}), both, ok, want)
	}
	for _, most := range wrongSoldiers() {
		if both, ok := impl.SquareTriangles(most); ok || len(both) > 0 {
			t.Error("SquareTriangles", most, both, ok)
		}
	}
}

func TestOneSoldier(t *testing.T) {
	pairs, ok := impl.RectanglesOf(1)
	checkPairs(t, "rectangles", pairs, ok, [][]int{{1, 1}})
	pairs, ok = impl.HollowsOf(1)
	checkPairs(t, "hollows", pairs, ok, nil)
	pairs, ok = impl.TwoSquares(1)
	checkPairs(t, "two squares", pairs, ok, nil)
	side, over, ok := impl.SquareOf(1)
	checkTwo(t, "square", side, over, ok, 1, 0)
	rows, over, ok := impl.TriangleOf(1)
	checkTwo(t, "triangle", rows, over, ok, 1, 0)
	both, ok := impl.SquareTriangles(1)
	checkList(t, "square triangles", both, ok, []int{1})
	left, ok := impl.RemaindersOf(1, []int{1, 2, 1000})
	checkList(t, "remainders", left, ok, []int{0, 1, 1})
	turned, ok := impl.TurnFormation(1, 1)
	checkList(t, "turned", turned, ok, []int{0})
	n, ok := impl.TimesTurned(1, 1)
	checkInt(t, "times", n, ok, 1)
}

func TestRemainders(t *testing.T) {
	for _, columns := range append(wideColumns(), shortColumns()...) {
		for _, soldiers := range []int{1, 2, 5, 12, 999, 1000, 1001, 123456, 999999, 1000000} {
			var want []int
			for _, width := range columns {
				want = append(want, soldiers-soldiers/width*width)
			}
			left, ok := impl.RemaindersOf(soldiers, columns)
			checkList(t, "RemaindersOf"+showList(columns), left, ok, want)
		}
		for _, soldiers := range wrongSoldiers() {
			if left, ok := impl.RemaindersOf(soldiers, columns); ok || len(left) > 0 {
				t.Error("RemaindersOf", soldiers, columns, left, ok)
			}
		}
	}
}

// Promise 3: least numbers leave just so many over; here they are those found by going on from 0.
func TestLeastWithOfShortLists(t *testing.T) {
	for _, columns := range shortColumns() {
		step := plainStep(columns)
		n, ok := impl.StepOf(columns)
		checkInt(t, "StepOf"+showList(columns), n, ok, step)
		for _, left := range allLeft(columns) {
			what := showList(columns) + " and" + showList(left)
			least := 0
			for least < step && !leaves(least, columns, left) {
				least++
			}
			can, ok := impl.CanBeLeft(columns, left)
			checkBool(t, "CanBeLeft"+what, can, ok, least < step)
			n, ok := impl.LeastWith(columns, left)
			if least == step {
				checkFails(t, "LeastWith"+what, ok, n)
			} else {
				checkInt(t, "LeastWith"+what, n, ok, least)
			}
			count := 0
			for most := range 80 {
				if leaves(most, columns, left) {
					count++
				}
				n, ok := impl.CountWith(columns, left, most)
				checkInt(t, "CountWith"+what+" up to"+showList([]int{most}), n, ok, count)
			}
		}
	}
}

// samplesLeft returns some lists of what is left over in columns: of numbers, so that it can be left, and others.
func samplesLeft(columns []int) [][]int {
	var lists [][]int
	for _, number := range []int{0, 1, 23, 999, 1000, 123456789, 1e9, 999999999999, 1e12, 123456789012345678} {
		var left, other []int
		for k, width := range columns {
			left = append(left, number%width)
			other = append(other, (number/(k+1)+k)%width)
		}
		lists = append(lists, left, other)
	}
	var last []int
	for _, width := range columns {
		last = append(last, width-1)
	}
	return append(lists, last)
}

// Promise 3: least numbers leave just so many over; less than a step apart from 0 there is just one.
func TestLeastWithOfWideLists(t *testing.T) {
	for _, columns := range wideColumns() {
		step := plainStep(columns)
		for _, left := range samplesLeft(columns) {
			what := showList(columns) + " and" + showList(left)
			can, ok := impl.CanBeLeft(columns, left)
			checkBool(t, "CanBeLeft"+what, can, ok, agree(columns, left))
			least, ok := impl.LeastWith(columns, left)
			if !agree(columns, left) {
				checkFails(t, "LeastWith"+what, ok, least)
				n, ok := impl.CountWith(columns, left, 1000000000)
				checkInt(t, "CountWith"+what, n, ok, 0)
				continue
			}
			if !ok || least < 0 || least >= step || !leaves(least, columns, left) {
				t.Error("LeastWith"+what, least, ok)
			}
			for _, most := range []int{0, least - 1, least, least + 1, least + step - 1, least + step, least + 2*step, 1000000000} {
				if most < 0 || most > 1000000000 {
					continue
				}
				want := 0
				if most >= least {
					want = 1 + (most-least)/step
				}
				n, ok := impl.CountWith(columns, left, most)
				checkInt(t, "CountWith"+what+" up to"+showList([]int{most}), n, ok, want)
			}
		}
	}
	n, ok := impl.LeastWith([]int{1000, 999, 997, 991, 989, 983}, []int{999, 998, 996, 990, 988, 982})
	checkInt(t, "one less than a step", n, ok, 1000*999*997*991*989*983-1)
}

func TestEqualColumns(t *testing.T) {
	for _, width := range []int{2, 3, 999, 1000} {
		columns := slices.Repeat([]int{width}, 6)
		left := slices.Repeat([]int{width - 1}, 6)
		n, ok := impl.LeastWith(columns, left)
		checkInt(t, "least", n, ok, width-1)
		n, ok = impl.StepOf(columns)
		checkInt(t, "step", n, ok, width)
		for k := range left {
			other := slices.Clone(left)
			other[k] = 0
			n, ok := impl.LeastWith(columns, other)
			checkFails(t, "LeastWith of other numbers", ok, n)
			can, ok := impl.CanBeLeft(columns, other)
			checkBool(t, "can", can, ok, false)
			n, ok = impl.CountWith(columns, other, 1000000000)
			checkInt(t, "count", n, ok, 0)
		}
	}
}

// A step of 1000000000000 itself is none of columns up to MaxColumns, as it needs 2 twelve times; these are the nearest ones.
func TestStepLimits(t *testing.T) {
	for _, columns := range [][]int{{743, 347, 865, 236, 19}, {19, 865, 743, 236, 347, 4}} {
		n, ok := impl.StepOf(columns)
		checkInt(t, "StepOf"+showList(columns), n, ok, 999999999860)
	}
	n, ok := impl.StepOf([]int{1000, 999, 997, 991})
	checkInt(t, "StepOf four", n, ok, 1000*999*997*991)
	for _, columns := range [][]int{{379, 879, 916, 113, 29}, {29, 1, 113, 916, 879, 379}, {1000, 999, 997, 991, 989, 983}, {997, 991, 983, 977, 971, 967}, {1000, 999, 997, 991, 7}} {
		n, ok := impl.StepOf(columns)
		checkFails(t, "StepOf"+showList(columns), ok, n)
		zeros := make([]int, len(columns))
		least, ok := impl.LeastWith(columns, zeros)
		checkInt(t, "none left over", least, ok, 0)
		count, ok := impl.CountWith(columns, zeros, 1000000000)
		checkInt(t, "only 0", count, ok, 1)
	}
	for _, columns := range wideColumns() {
		if step := plainStep(columns); step <= 1000000000000 {
			n, ok := impl.StepOf(columns)
			checkInt(t, "StepOf"+showList(columns), n, ok, step)
		}
	}
}

func TestCountWithLimits(t *testing.T) {
	for _, c := range [][4]int{{1, 0, 0, 1}, {1, 0, 1000000000, 1000000001}, {1000, 0, 0, 1}, {1000, 1, 0, 0}, {1000, 999, 998, 0}, {1000, 999, 999, 1},
		{1000, 0, 1000000000, 1000001}, {1000, 1, 1000000000, 1000000}, {1000, 999, 1000000000, 1000000}, {7, 3, 2, 0}, {7, 3, 3, 1}, {7, 3, 9, 1}, {7, 3, 10, 2}} {
		n, ok := impl.CountWith([]int{c[0]}, []int{c[1]}, c[2])
		checkInt(t, "CountWith"+showList(c[:3]), n, ok, c[3])
	}
	for _, most := range []int{-1, -1000, 1000000001, 1000000002, 1 << 40, math.MinInt, math.MaxInt} {
		for _, left := range []int{0, 6} {
			n, ok := impl.CountWith([]int{7}, []int{left}, most)
			checkFails(t, "CountWith up to"+showList([]int{most}), ok, n)
		}
		n, ok := impl.CountWith([]int{7, 7}, []int{1, 2}, most)
		checkFails(t, "CountWith up to"+showList([]int{most}), ok, n)
	}
}

// checkNoLeft checks that all functions of what is left over fail.
func checkNoLeft(t *testing.T, columns, left []int) {
	t.Helper()
	what := showList(columns) + " and" + showList(left)
	n, ok := impl.LeastWith(columns, left)
	checkFails(t, "LeastWith"+what, ok, n)
	for _, most := range []int{0, 100, 1000000000} {
		n, ok = impl.CountWith(columns, left, most)
		checkFails(t, "CountWith"+what, ok, n)
	}
	if can, ok := impl.CanBeLeft(columns, left); can || ok {
		t.Error("CanBeLeft"+what, can, ok)
	}
}

// Promise 11: wrong lists make every function fail.
func TestListsThatAreNoColumns(t *testing.T) {
	for _, columns := range noColumns() {
		n, ok := impl.StepOf(columns)
		checkFails(t, "StepOf"+showList(columns), ok, n)
		if left, ok := impl.RemaindersOf(5, columns); ok || len(left) > 0 {
			t.Error("RemaindersOf", columns, left, ok)
		}
		checkNoLeft(t, columns, make([]int, len(columns)))
		checkNoLeft(t, columns, []int{0})
		checkNoLeft(t, columns, nil)
	}
	lists := [][2][]int{
		{{3, 5}, {1}}, {{3}, {1, 2}}, {{3}, nil}, {{3}, {}}, {{3, 5, 7}, {2, 3}}, {{3, 5, 7}, {2, 3, 2, 0}}, {{3, 5, 7, 11, 13, 17}, {0, 0, 0, 0, 0}},
		{{3, 5, 7, 11, 13, 17}, {0, 0, 0, 0, 0, 0, 0}}, {{1}, {1}}, {{3}, {3}}, {{3}, {4}}, {{1000}, {1000}}, {{3, 5}, {3, 2}}, {{3, 5}, {2, 5}}, {{5, 3}, {2, 4}},
		{{3, 5, 7}, {2, 3, 7}},
	}
	for _, wrong := range []int{-1, -2, -3, 1000, 1001, 1 << 32, math.MinInt, math.MinInt + 1, math.MaxInt} {
		lists = append(lists, [2][]int{{3}, {wrong}}, [2][]int{{3, 5}, {wrong, 1}}, [2][]int{{3, 5}, {1, wrong}}, [2][]int{{2, 3, 5, 7, 11, 13}, {0, 0, 0, 0, 0, wrong}})
	}
	for _, list := range lists {
		checkNoLeft(t, list[0], list[1])
	}
}

// Places in rows are found by walking on from soldier to soldier.
func TestPlaces(t *testing.T) {
	for _, columns := range []int{1, 2, 3, 10, 999, 1000} {
		row, column := 0, 0
		for soldier := range 20000 {
			what := showList([]int{columns, soldier})
			r, c, ok := impl.PlaceIn(columns, soldier)
			checkTwo(t, "PlaceIn"+what, r, c, ok, row, column)
			seen := column
			if row%2 == 1 {
				seen = columns - 1 - column
			}
			r, c, ok = impl.SnakePlace(columns, soldier)
			checkTwo(t, "SnakePlace"+what, r, c, ok, row, seen)
			n, okAt := impl.SoldierAt(columns, row, column)
			m, okSnake := impl.SoldierOfSnake(columns, row, seen)
			if row <= 1000 {
				checkInt(t, "SoldierAt"+what, n, okAt, soldier)
				checkInt(t, "SoldierOfSnake"+what, m, okSnake, soldier)
			} else {
				checkFails(t, "SoldierAt"+what, okAt, n)
				checkFails(t, "SoldierOfSnake"+what, okSnake, m)
			}
			column++
			if column == columns {
				row, column = row+1, 0
			}
		}
	}
}

// In a snake each soldier stands beside the one before, or in front.
func TestSnakeGoesOnByOne(t *testing.T) {
	for _, columns := range []int{1, 2, 5, 1000} {
		oldRow, oldColumn, _ := impl.SnakePlace(columns, 0)
		for soldier := 1; soldier < 5000; soldier++ {
			row, column, ok := impl.SnakePlace(columns, soldier)
			apart := max(row-oldRow, oldRow-row) + max(column-oldColumn, oldColumn-column)
			if !ok || apart != 1 {
				t.Error("SnakePlace", columns, soldier, row, column, ok)
			}
			oldRow, oldColumn = row, column
		}
	}
}

func TestPlaceLimits(t *testing.T) {
	for _, p := range [][4]int{{1, 0, 0, 0}, {1, 999999, 999999, 0}, {1000, 999999, 999, 999}, {1000, 0, 0, 0}, {7, 999999, 142857, 0}, {999, 999999, 1001, 0}} {
		row, column, ok := impl.PlaceIn(p[0], p[1])
		checkTwo(t, "PlaceIn"+showList(p[:2]), row, column, ok, p[2], p[3])
	}
	for _, p := range [][4]int{{1, 0, 0, 0}, {1, 999999, 999999, 0}, {1000, 999999, 999, 0}, {1000, 1000, 1, 999}, {7, 999999, 142857, 6}, {999, 999999, 1001, 998}} {
		row, column, ok := impl.SnakePlace(p[0], p[1])
		checkTwo(t, "SnakePlace"+showList(p[:2]), row, column, ok, p[2], p[3])
	}
	wrong := [][2]int{{0, 0}, {-1, 0}, {1001, 0}, {1001, 1001}, {math.MinInt, 0}, {math.MaxInt, 0}, {3, -1}, {3, -3}, {3, 1000000}, {1000, 1000000}, {1, 1000000}, {3, math.MinInt}, {3, math.MaxInt}}
	for _, w := range wrong {
		row, column, ok := impl.PlaceIn(w[0], w[1])
		checkFails(t, "PlaceIn"+showList(w[:]), ok, row, column)
		row, column, ok = impl.SnakePlace(w[0], w[1])
		checkFails(t, "SnakePlace"+showList(w[:]), ok, row, column)
	}
}

func TestSoldierLimits(t *testing.T) {
	for _, p := range [][5]int{{1, 0, 0, 0, 0}, {1, 1000, 0, 1000, 1000}, {1000, 0, 999, 999, 999}, {1000, 1000, 0, 1000000, 1000000}, {1000, 1000, 999, 1000999, 1000999},
		{1000, 999, 0, 999000, 999999}, {1000, 999, 999, 999999, 999000}, {3, 1, 2, 5, 3}, {3, 1, 1, 4, 4}, {3, 2, 2, 8, 8}} {
		n, ok := impl.SoldierAt(p[0], p[1], p[2])
		checkInt(t, "SoldierAt"+showList(p[:3]), n, ok, p[3])
		n, ok = impl.SoldierOfSnake(p[0], p[1], p[2])
		checkInt(t, "SoldierOfSnake"+showList(p[:3]), n, ok, p[4])
	}
	wrong := [][3]int{{0, 0, 0}, {-1, 0, 0}, {1001, 0, 0}, {1001, 1, 1000}, {3, -1, 0}, {3, -1, 2}, {3, 1001, 0}, {3, 1001, 1}, {1, 1001, 0}, {3, 0, 3}, {3, 1, 3}, {3, 0, -1}, {3, 1, -1}, {1, 1, 1}, {1000, 1, 1000},
		{math.MinInt, 1, 0}, {math.MaxInt, 1, 0}, {3, math.MinInt, 0}, {3, math.MaxInt, 0}, {3, 1, math.MinInt}, {3, 1, math.MaxInt}, {math.MinInt, 1, math.MinInt}, {math.MaxInt, 1, math.MaxInt}}
	for _, w := range wrong {
		n, ok := impl.SoldierAt(w[0], w[1], w[2])
		checkFails(t, "SoldierAt"+showList(w[:]), ok, n)
		n, ok = impl.SoldierOfSnake(w[0], w[1], w[2])
		checkFails(t, "SoldierOfSnake"+showList(w[:]), ok, n)
	}
}

// plainTurned lets each column, from its last row on, become a row.
func plainTurned(rows, columns int) []int {
	var turned []int
	for column := range columns {
		for row := rows - 1; row >= 0; row-- {
			turned = append(turned, row*columns+column)
		}
	}
	return turned
}

// plainTimes goes around with each soldier until this one is back.
func plainTimes(turned []int) int {
	var rounds []int
	for k := range turned {
		times := 1
		for at := turned[k]; at != k; at = turned[at] {
			times++
		}
		rounds = append(rounds, times)
	}
	return plainStep(rounds)
}

func TestTurned(t *testing.T) {
	for rows := 1; rows <= 205; rows++ {
		for columns := 1; columns <= 205; columns++ {
			what := showList([]int{rows, columns})
			turned, ok := impl.TurnFormation(rows, columns)
			times, okTimes := impl.TimesTurned(rows, columns)
			if rows*columns > 200 {
				checkFails(t, "TurnFormation"+what, ok, len(turned))
				checkFails(t, "TimesTurned"+what, okTimes, times)
				continue
			}
			checkList(t, "TurnFormation"+what, turned, ok, plainTurned(rows, columns))
			checkInt(t, "TimesTurned"+what, times, okTimes, plainTimes(plainTurned(rows, columns)))
		}
	}
	for _, k := range [][3]int{{1, 1, 1}, {1, 200, 1}, {2, 1, 2}, {200, 1, 2}, {2, 2, 4}, {2, 3, 3}, {14, 14, 4}, {3, 2, 6}} {
		times, ok := impl.TimesTurned(k[0], k[1])
		checkInt(t, "TimesTurned"+showList(k[:2]), times, ok, k[2])
	}
}

func TestTurnLimits(t *testing.T) {
	for _, pair := range [][2]int{{1, 200}, {200, 1}, {10, 20}, {8, 25}, {40, 5}} {
		turned, ok := impl.TurnFormation(pair[0], pair[1])
		checkList(t, "TurnFormation"+showList(pair[:]), turned, ok, plainTurned(pair[0], pair[1]))
	}
	wrong := [][2]int{{1, 201}, {201, 1}, {3, 67}, {67, 3}, {15, 14}, {0, 0}, {0, 5}, {5, 0}, {-1, 5}, {5, -1}, {-1, -1}, {-2, -3}, {1 << 32, 1 << 32}, {1 << 33, 1 << 31}, {1<<62 + 1, 4}, {4, 1<<62 + 1},
		{math.MaxInt, math.MaxInt}, {math.MaxInt, 1}, {1, math.MaxInt}, {math.MinInt, 1}, {1, math.MinInt}, {math.MinInt, 2}, {2, math.MinInt}, {math.MinInt, math.MinInt}, {math.MinInt, -1}, {-1, math.MinInt}}
	for _, w := range wrong {
		turned, ok := impl.TurnFormation(w[0], w[1])
		checkFails(t, "TurnFormation"+showList(w[:]), ok, len(turned))
		times, ok := impl.TimesTurned(w[0], w[1])
		checkFails(t, "TimesTurned"+showList(w[:]), ok, times)
	}
}

// Promise 11: arguments are not modified, nor is what lies behind their length read or written.
func TestColumnsAreNotModified(t *testing.T) {
	columns, left := []int{3, 5, 7, 0, -1, 7, 1001, 9}, []int{2, 3, 2, 77, -5, 6, 8, 1}
	wantColumns, wantLeft := slices.Clone(columns), slices.Clone(left)
	n, ok := impl.LeastWith(columns[:3], left[:3])
	checkInt(t, "least", n, ok, 23)
	n, ok = impl.StepOf(columns[:3])
	checkInt(t, "step", n, ok, 105)
	n, ok = impl.CountWith(columns[:3], left[:3], 1000)
	checkInt(t, "count", n, ok, 10)
	can, ok := impl.CanBeLeft(columns[:3], left[:3])
	checkBool(t, "can", can, ok, true)
	over, ok := impl.RemaindersOf(23, columns[:3])
	checkList(t, "remainders", over, ok, []int{2, 3, 2})
	impl.LeastWith(columns, left)
	impl.LeastWith(columns[:6], left[:6])
	impl.CountWith(columns[:6], left[:6], 100)
	impl.StepOf(columns)
	if !slices.Equal(columns, wantColumns) || !slices.Equal(left, wantLeft) {
		t.Error("modified", columns, left)
	}
}

// Promise 11: results are new memory, and no two slices of one share any.
func TestFormResultsAreNew(t *testing.T) {
	columns := []int{3, 5, 7}
	results := func() [][]int {
		a, _ := impl.RectanglesOf(720)
		b, _ := impl.HollowsOf(720)
		c, _ := impl.TwoSquares(5525)
		d, _ := impl.SquareTriangles(1000000)
		e, _ := impl.RemaindersOf(100, columns)
		f, _ := impl.TurnFormation(4, 5)
		return append(slices.Concat(a, b, c), d, e, f)
	}
	var want [][]int
	for _, result := range results() {
		want = append(want, slices.Clone(result))
	}
	got := results()
	for k, result := range got {
		checkList(t, "before it is written to", result, true, want[k])
		clear(result[:cap(result)])
	}
	checkPairs(t, "written to", results(), true, want)
	checkList(t, "the argument", columns, true, []int{3, 5, 7})
}

// Promise 11: numbers of whatever size are accepted, in all orders.
func TestFormNumbersOfAllSizes(t *testing.T) {
	numbers := []int{math.MinInt, math.MinInt + 1, -1000001, -201, -2, -1, 0, 1, 2, 3, 14, 200, 201, 999, 1000, 1001, 999999, 1000000, 1000001, 1 << 31, 1 << 32, 1 << 62, math.MaxInt - 1, math.MaxInt}
	lists := append(noColumns(), []int{1}, []int{3, 5, 7}, []int{2, 3, 2}, slices.Repeat([]int{1000}, 6), slices.Repeat([]int{999}, 6))
	for _, a := range numbers {
		impl.RectanglesOf(a)
		impl.HollowsOf(a)
		impl.SquareOf(a)
		impl.TriangleOf(a)
		impl.TwoSquares(a)
		impl.SquareTriangles(a)
		for _, columns := range lists {
			impl.RemaindersOf(a, columns)
			for _, left := range lists {
				impl.CountWith(columns, left, a)
			}
		}
		for _, b := range numbers {
			impl.CountHollow(a, b)
			impl.GreatestHollow(a, b)
			impl.PlaceIn(a, b)
			impl.SnakePlace(a, b)
			impl.TurnFormation(a, b)
			impl.TimesTurned(a, b)
			for _, c := range numbers {
				impl.SoldierAt(a, b, c)
				impl.SoldierOfSnake(a, b, c)
			}
		}
	}
	for _, columns := range lists {
		impl.StepOf(columns)
		for _, left := range lists {
			impl.LeastWith(columns, left)
			impl.CanBeLeft(columns, left)
		}
	}
}
