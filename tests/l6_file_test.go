package tests

import (
	"math"
	"regexp"
	"slices"
	"strconv"
	"strings"
	"testing"

	"loop.example/g01332/impl"
)

// filesOf returns files of so many columns, with heights told row by row.
func filesOf(columns int, heights ...int) [][]int {
	var files [][]int
	for row := range slices.Chunk(heights, columns) {
		files = append(files, slices.Clone(row))
	}
	return files
}

// sameFiles returns files in which all are as tall.
func sameFiles(rows, columns, height int) [][]int {
	return filesOf(columns, slices.Repeat([]int{height}, rows*columns)...)
}

// madeFiles returns files with a height told of each place.
func madeFiles(rows, columns int, height func(row, column int) int) [][]int {
	files := sameFiles(rows, columns, 0)
	for row := range files {
		for column := range files[row] {
			files[row][column] = height(row, column)
		}
	}
	return files
}

func showFiles(files [][]int) string {
	var rows []string
	for _, row := range files {
		rows = append(rows, strings.ReplaceAll(strings.TrimSpace(showList(row)), " ", ","))
	}
	return strings.Join(rows, "/")
}

func cloneFiles(files [][]int) [][]int {
	var clone [][]int
	for _, row := range files {
		clone = append(clone, slices.Clone(row))
	}
	return clone
}

// allFiles returns all files of so many rows and columns with heights up to most.
func allFiles(rows, columns, most int) [][][]int {
	var all [][][]int
	for _, heights := range allLeft(slices.Repeat([]int{most}, rows*columns)) {
		files := filesOf(columns, heights...)
		for _, row := range files {
			for k := range row {
				row[k]++
			}
		}
		all = append(all, files)
	}
	return all
}

func shortFiles() [][][]int {
	return slices.Concat(allFiles(1, 1, 4), allFiles(1, 2, 4), allFiles(2, 1, 4), allFiles(1, 4, 3), allFiles(4, 1, 3), allFiles(2, 2, 4), allFiles(2, 3, 3), allFiles(3, 2, 3), allFiles(3, 3, 2))
}

// wideFiles returns files of up to MaxFileSide rows and columns, and of heights up to MaxFileHeight.
func wideFiles() [][][]int {
	all := [][][]int{
		{{1}}, {{999}}, {{500}}, {{1, 999}}, {{999, 1}}, {{1}, {999}}, {{999}, {1}}, {{3, 1}, {2, 4}}, {{1, 3}, {2, 4}},
		{{1, 2, 3}, {2, 3, 4}, {3, 4, 5}}, {{5, 4, 3}, {4, 3, 2}, {3, 2, 1}}, {{1, 2, 3}, {1, 2, 2}, {1, 1, 1}}, {{3, 2, 1}, {3, 3, 2}, {4, 4, 4}},
		{{10, 9, 100}, {99, 2, 999}}, {{1, 10, 100, 999}, {2, 20, 200, 999}, {3, 30, 300, 999}},
	}
	for _, side := range [][2]int{{8, 8}, {1, 8}, {8, 1}, {7, 8}, {8, 7}, {5, 3}, {2, 8}, {1, 5}, {6, 1}} {
		rows, columns := side[0], side[1]
		all = append(all, sameFiles(rows, columns, 1), sameFiles(rows, columns, 999),
			madeFiles(rows, columns, func(row, column int) int { return row*columns + column + 1 }),
			madeFiles(rows, columns, func(row, column int) int { return 999 - row*columns - column }),
			madeFiles(rows, columns, func(row, column int) int { return (row*377+column*161)%999 + 1 }),
			madeFiles(rows, columns, func(row, column int) int { return (row*row*5+column*7+row*column*3)%11 + 1 }),
			madeFiles(rows, columns, func(row, column int) int { return 100*column - row + 8 }),
			madeFiles(rows, columns, func(row, column int) int { return 100*row - column + 8 }),
			madeFiles(rows, columns, func(row, column int) int { return max(row, column)/2 + 1 }))
	}
	return all
}

func sampleFiles() [][][]int { return append(wideFiles(), shortFiles()...) }

// noFiles returns lists that are no files.
func noFiles() [][][]int {
	lists := [][][]int{
		nil, {}, {nil}, {{}}, {{}, {}}, {nil, nil}, {{1}, {}}, {{}, {1}}, {{1}, nil}, {nil, {1}}, {{1, 2}, {3, 4}, {}}, {{1, 2}, {}, {3, 4}},
		{{1, 2}, {3}}, {{1}, {2, 3}}, {{1, 2}, {3, 4}, {5}}, {{1, 2}, {3, 4}, {5, 6, 7}}, {{1, 2, 3}, {4, 5}, {6}}, {{1}, {2}, {3}, {4}, {5}, {6}, {7}, {8, 9}},
		sameFiles(9, 1, 1), sameFiles(1, 9, 1), sameFiles(9, 9, 999), sameFiles(9, 8, 5), sameFiles(8, 9, 5), sameFiles(1000, 1, 5), sameFiles(1, 1000, 5), sameFiles(64, 64, 7),
		slices.Repeat([][]int{{}}, 8), slices.Repeat([][]int{nil}, 9), append(sameFiles(7, 8, 5), slices.Repeat([]int{5}, 9)), append(sameFiles(7, 8, 5), slices.Repeat([]int{5}, 7)),
	}
	for _, height := range wrongFileHeights() {
		lists = append(lists, [][]int{{height}}, [][]int{{height, 1}}, [][]int{{1, height}}, [][]int{{height}, {1}}, [][]int{{1}, {height}}, [][]int{{height, height}, {height, height}})
		last := sameFiles(8, 8, 5)
		last[7][7] = height
		lists = append(lists, last)
	}
	return lists
}

// wrongFileHeights returns numbers that are no heights of files.
func wrongFileHeights() []int {
	return []int{0, -1, -5, -999, -1000, 1000, 1001, 1 << 32, 1<<32 + 5, -1 << 32, 1 << 62, math.MinInt, math.MinInt + 1, math.MinInt + 5, math.MaxInt - 1, math.MaxInt}
}

// plainInOrder tells heights one after the other by going over all that there may be.
func plainInOrder(list []int) []int {
	var inOrder []int
	for height := 1; height <= 999; height++ {
		for _, each := range list {
			if each == height {
				inOrder = append(inOrder, height)
			}
		}
	}
	return inOrder
}

func plainColumn(files [][]int, column int) []int {
	var list []int
	for _, row := range files {
		list = append(list, row[column])
	}
	return list
}

func plainTurnedFiles(files [][]int) [][]int {
	var turned [][]int
	for column := range files[0] {
		turned = append(turned, plainColumn(files, column))
	}
	return turned
}

func plainRowsInOrder(files [][]int) [][]int {
	var sorted [][]int
	for _, row := range files {
		sorted = append(sorted, plainInOrder(row))
	}
	return sorted
}

func plainColumnsInOrder(files [][]int) [][]int {
	return plainTurnedFiles(plainRowsInOrder(plainTurnedFiles(files)))
}

// fallsInRows counts the places that are less than the one before in their row.
func fallsInRows(files [][]int) int {
	count := 0
	for _, row := range files {
		for k := 1; k < len(row); k++ {
			if row[k] < row[k-1] {
				count++
			}
		}
	}
	return count
}

func fallsInColumns(files [][]int) int {
	count := 0
	for k := 1; k < len(files); k++ {
		for column := range files[k] {
			if files[k][column] < files[k-1][column] {
				count++
			}
		}
	}
	return count
}

func areSortedBoth(files [][]int) bool { return fallsInRows(files)+fallsInColumns(files) == 0 }

// sortedSamples returns those of the sample files that are sorted, or become so.
func sortedSamples() [][][]int {
	var all [][][]int
	for _, files := range sampleFiles() {
		if areSortedBoth(files) {
			all = append(all, files)
		}
	}
	for _, files := range wideFiles() {
		all = append(all, plainColumnsInOrder(plainRowsInOrder(files)))
	}
	return all
}

func plainSaddles(files [][]int) [][]int {
	var places [][]int
	for row := range files {
		for column, height := range files[row] {
			shorter := func(other int) bool { return other < height }
			taller := func(other int) bool { return other > height }
			if !slices.ContainsFunc(files[row], shorter) && !slices.ContainsFunc(plainColumn(files, column), taller) {
				places = append(places, []int{row, column})
			}
		}
	}
	return places
}

// plainSearch goes on from a place, as the document tells of one place after the other.
func plainSearch(files [][]int, height, row, column int) [][]int {
	if row == len(files) || column < 0 {
		return nil
	}
	here := [][]int{{row, column}}
	switch {
	case files[row][column] > height:
		return append(here, plainSearch(files, height, row, column-1)...)
	case files[row][column] < height:
		return append(here, plainSearch(files, height, row+1, column)...)
	}
	return here
}

func countAtMost(list []int, height int) int {
	count := 0
	for _, each := range list {
		if each <= height {
			count++
		}
	}
	return count
}

func checkNoFiles(t *testing.T, what string, got [][]int, ok bool) {
	t.Helper()
	if ok || len(got) > 0 {
		t.Errorf("%s: %v, %v, but it fails", what, got, ok)
	}
}

func TestFileConstants(t *testing.T) {
	if impl.MaxFileSide != 8 || impl.MaxFileHeight != 999 {
		t.Error("limits", impl.MaxFileSide, impl.MaxFileHeight)
	}
}

func TestFileExample(t *testing.T) {
	files, ok := impl.ParseFiles("3,1/2,4")
	checkPairs(t, "files", files, ok, [][]int{{3, 1}, {2, 4}})
	rows, ok := impl.SortFileRows(files)
	checkPairs(t, "rows", rows, ok, [][]int{{1, 3}, {2, 4}})
	both, ok := impl.SortBoth(files)
	checkPairs(t, "both", both, ok, [][]int{{1, 3}, {2, 4}})
	columns, ok := impl.SortFileColumns(files)
	checkPairs(t, "columns", columns, ok, [][]int{{2, 1}, {3, 4}})
	n, ok := impl.ShortestOfTallest(files)
	checkInt(t, "shortest of tallest", n, ok, 3)
	n, ok = impl.TallestOfShortest(files)
	checkInt(t, "tallest of shortest", n, ok, 2)
	places, ok := impl.SaddlePlaces(both)
	checkPairs(t, "saddles", places, ok, [][]int{{1, 0}})
	places, ok = impl.PlacesSearched(both, 2)
	checkPairs(t, "searched", places, ok, [][]int{{0, 1}, {0, 0}, {1, 0}})
	n, ok = impl.FileDisorder(files)
	checkInt(t, "disorder", n, ok, 2)
	n, ok = impl.CountSortedFiles(2, 2)
	checkInt(t, "two rows, two columns", n, ok, 2)
	n, ok = impl.CountSortedFiles(2, 3)
	checkInt(t, "two rows, three columns", n, ok, 5)
}

func TestAreFiles(t *testing.T) {
	for _, files := range sampleFiles() {
		if !impl.AreFiles(files) {
			t.Error("files", files)
		}
	}
	for _, files := range noFiles() {
		if impl.AreFiles(files) {
			t.Error("no files", files)
		}
	}
	for rows := range 12 {
		for columns := range 12 {
			files := slices.Repeat([][]int{slices.Repeat([]int{7}, columns)}, rows)
			if impl.AreFiles(files) != (rows >= 1 && rows <= 8 && columns >= 1 && columns <= 8) {
				t.Error("rows", rows, "columns", columns)
			}
		}
	}
	for height := -5; height <= 1005; height++ {
		good := height >= 1 && height <= 999
		if impl.AreFiles([][]int{{height}}) != good || impl.AreFiles([][]int{{1, 999}, {5, height}}) != good {
			t.Error("height", height)
		}
	}
}

// One wrong height at any place, or one row with another length, makes any files none.
func TestOneWrongRow(t *testing.T) {
	for _, side := range [][2]int{{1, 1}, {1, 8}, {8, 1}, {3, 4}, {8, 8}} {
		files := sameFiles(side[0], side[1], 5)
		for row := range files {
			for column := range files[row] {
				for _, height := range wrongFileHeights() {
					files[row][column] = height
					if impl.AreFiles(files) {
						t.Error("height", height, "at", row, column)
					}
				}
				files[row][column] = 5
			}
			whole := files[row]
			for length := range 12 {
				files[row] = slices.Repeat([]int{5}, length)
				if impl.AreFiles(files) != (length == side[1] || side[0] == 1 && length >= 1 && length <= 8) {
					t.Error("row", row, "of", side, "with length", length)
				}
			}
			files[row] = whole
		}
	}
}

// Promise 6: files sorted by rows and then by columns are sorted both ways.
func TestSorting(t *testing.T) {
	for _, files := range sampleFiles() {
		what := showFiles(files)
		rows, ok := impl.SortFileRows(files)
		checkPairs(t, "SortFileRows "+what, rows, ok, plainRowsInOrder(files))
		columns, ok := impl.SortFileColumns(files)
		checkPairs(t, "SortFileColumns "+what, columns, ok, plainColumnsInOrder(files))
		both, ok := impl.SortBoth(files)
		checkPairs(t, "SortBoth "+what, both, ok, plainColumnsInOrder(plainRowsInOrder(files)))
		if !areSortedBoth(both) || !slices.Equal(plainInOrder(slices.Concat(both...)), plainInOrder(slices.Concat(files...))) {
			t.Error("SortBoth", what, both)
		}
		sorted, ok := impl.AreRowsSorted(both)
		checkBool(t, "AreRowsSorted of both "+what, sorted, ok, true)
		sorted, ok = impl.AreColumnsSorted(both)
		checkBool(t, "AreColumnsSorted of both "+what, sorted, ok, true)
		again, ok := impl.SortBoth(both)
		checkPairs(t, "SortBoth again "+what, again, ok, both)
	}
}

func TestKnownSorting(t *testing.T) {
	known := []struct{ files, rows, columns, both string }{
		{"1", "1", "1", "1"}, {"999", "999", "999", "999"}, {"3,1,2", "1,2,3", "3,1,2", "1,2,3"}, {"3/1/2", "3/1/2", "1/2/3", "1/2/3"},
		{"5,5/5,5", "5,5/5,5", "5,5/5,5", "5,5/5,5"}, {"10,9,100", "9,10,100", "10,9,100", "9,10,100"}, {"4,3/2,1", "3,4/1,2", "2,1/4,3", "1,2/3,4"},
		// Columns put in order first, and then rows, would be 1,3/3,4/5,6.
		{"6,1/3,5/4,3", "1,6/3,5/3,4", "3,1/4,3/6,5", "1,4/3,5/3,6"},
		{"9,9,1/1,9,9/9,1,9", "1,9,9/1,9,9/1,9,9", "1,1,1/9,9,9/9,9,9", "1,9,9/1,9,9/1,9,9"},
		{"999,1/1,999/999,999", "1,999/1,999/999,999", "1,1/999,999/999,999", "1,999/1,999/999,999"},
	}
	for _, k := range known {
		files, ok := impl.ParseFiles(k.files)
		if !ok {
			t.Error("ParseFiles", k.files)
		}
		rows, ok := impl.SortFileRows(files)
		checkText(t, "SortFileRows "+k.files, showFiles(rows), ok, k.rows)
		columns, ok := impl.SortFileColumns(files)
		checkText(t, "SortFileColumns "+k.files, showFiles(columns), ok, k.columns)
		both, ok := impl.SortBoth(files)
		checkText(t, "SortBoth "+k.files, showFiles(both), ok, k.both)
	}
}

func TestSortedness(t *testing.T) {
	for _, files := range append(sampleFiles(), sortedSamples()...) {
		sorted, ok := impl.AreRowsSorted(files)
		checkBool(t, "AreRowsSorted "+showFiles(files), sorted, ok, fallsInRows(files) == 0)
		sorted, ok = impl.AreColumnsSorted(files)
		checkBool(t, "AreColumnsSorted "+showFiles(files), sorted, ok, fallsInColumns(files) == 0)
	}
	known := []struct {
		files         string
		rows, columns bool
	}{
		{"1", true, true}, {"1,3/2,4", true, true}, {"3,4/1,2", true, false}, {"2,1/4,3", false, true}, {"3,1/2,4", false, false}, {"7,7/7,7", true, true},
		{"1,2,3", true, true}, {"3,2,1", false, true}, {"1/2/3", true, true}, {"3/2/1", true, false}, {"1,2,2/1,2,3/1,2,3", true, true}, {"1,2,3/1,2,2", true, false}, {"1,2/3,2/4,4", false, true},
		{"9,10/99,100", true, true}, {"10,9/100,99", false, true},
	}
	for _, k := range known {
		files, _ := impl.ParseFiles(k.files)
		sorted, ok := impl.AreRowsSorted(files)
		checkBool(t, "AreRowsSorted "+k.files, sorted, ok, k.rows)
		sorted, ok = impl.AreColumnsSorted(files)
		checkBool(t, "AreColumnsSorted "+k.files, sorted, ok, k.columns)
	}
}

// One height out of order at any place of the greatest files is found.
func TestOneOutOfOrder(t *testing.T) {
	for row := range 8 {
		for column := range 8 {
			files := madeFiles(8, 8, func(row, column int) int { return 10 + row + column })
			files[row][column] = 1
			sorted, ok := impl.AreRowsSorted(files)
			checkBool(t, "AreRowsSorted "+showFiles(files), sorted, ok, column == 0)
			sorted, ok = impl.AreColumnsSorted(files)
			checkBool(t, "AreColumnsSorted "+showFiles(files), sorted, ok, row == 0)
			n, ok := impl.FileDisorder(files)
			checkInt(t, "FileDisorder "+showFiles(files), n, ok, min(row, 1)+min(column, 1))
			places, ok := impl.PlacesSearched(files, 17)
			if row+column > 0 {
				checkNoFiles(t, "PlacesSearched "+showFiles(files), places, ok)
			} else {
				checkPairs(t, "PlacesSearched "+showFiles(files), places, ok, [][]int{{0, 7}})
			}
		}
	}
}

func TestTurnFiles(t *testing.T) {
	for _, files := range sampleFiles() {
		turned, ok := impl.TurnFiles(files)
		checkPairs(t, "TurnFiles "+showFiles(files), turned, ok, plainTurnedFiles(files))
		back, ok := impl.TurnFiles(turned)
		checkPairs(t, "TurnFiles twice "+showFiles(files), back, ok, files)
	}
	turned, ok := impl.TurnFiles([][]int{{1, 2, 3}, {4, 5, 6}})
	checkPairs(t, "TurnFiles", turned, ok, [][]int{{1, 4}, {2, 5}, {3, 6}})
	turned, ok = impl.TurnFiles([][]int{{1, 2, 3, 4, 5, 6, 7, 8}})
	checkPairs(t, "one row", turned, ok, [][]int{{1}, {2}, {3}, {4}, {5}, {6}, {7}, {8}})
	turned, ok = impl.TurnFiles([][]int{{1}, {2}, {3}})
	checkPairs(t, "one column", turned, ok, [][]int{{1, 2, 3}})
}

// plainShortestOfTallest is the least height that no one of a column exceeds.
func plainShortestOfTallest(files [][]int) int {
	for height := 1; ; height++ {
		for column := range files[0] {
			if countAtMost(plainColumn(files, column), height) == len(files) {
				return height
			}
		}
	}
}

// plainTallestOfShortest is the greatest height of which no one of a row falls short.
func plainTallestOfShortest(files [][]int) int {
	for height := 999; ; height-- {
		for _, row := range files {
			if countAtMost(row, height-1) == 0 {
				return height
			}
		}
	}
}

func TestShortestAndTallest(t *testing.T) {
	for _, files := range append(sampleFiles(), sortedSamples()...) {
		high, ok := impl.ShortestOfTallest(files)
		checkInt(t, "ShortestOfTallest "+showFiles(files), high, ok, plainShortestOfTallest(files))
		low, ok := impl.TallestOfShortest(files)
		checkInt(t, "TallestOfShortest "+showFiles(files), low, ok, plainTallestOfShortest(files))
		if low > high {
			t.Error("never more", showFiles(files), low, high)
		}
	}
	known := []struct {
		files     string
		high, low int
	}{
		{"1", 1, 1}, {"999", 999, 999}, {"3,1,2", 1, 1}, {"3/1/2", 3, 3}, {"1,999/999,1", 999, 1}, {"5,5/5,5", 5, 5}, {"1,2/3,4", 3, 3}, {"4,3/2,1", 3, 3}, {"2,7,9/8,3,9", 7, 3}, {"999,1/999,1", 1, 1}, {"10,9/100,99", 99, 99},
	}
	for _, k := range known {
		files, _ := impl.ParseFiles(k.files)
		n, ok := impl.ShortestOfTallest(files)
		checkInt(t, "ShortestOfTallest "+k.files, n, ok, k.high)
		n, ok = impl.TallestOfShortest(files)
		checkInt(t, "TallestOfShortest "+k.files, n, ok, k.low)
	}
}

func TestSaddles(t *testing.T) {
	for _, files := range append(sampleFiles(), sortedSamples()...) {
		places, ok := impl.SaddlePlaces(files)
		checkPairs(t, "SaddlePlaces "+showFiles(files), places, ok, plainSaddles(files))
		// There is a saddle just if both heights are the same, and each one has this height.
		high, _ := impl.ShortestOfTallest(files)
		low, _ := impl.TallestOfShortest(files)
		if (len(places) > 0) != (high == low) {
			t.Error("saddles", showFiles(files), places, high, low)
		}
		for _, place := range places {
			if files[place[0]][place[1]] != high {
				t.Error("saddle", showFiles(files), place, high)
			}
		}
	}
	known := []struct {
		files  string
		places [][]int
	}{
		{"1", [][]int{{0, 0}}}, {"3,1/2,4", nil}, {"1,2/2,1", nil}, {"1,3/2,4", [][]int{{1, 0}}}, {"5,5/5,5", [][]int{{0, 0}, {0, 1}, {1, 0}, {1, 1}}},
		{"3,1,2,1", [][]int{{0, 1}, {0, 3}}}, {"3/1/3", [][]int{{0, 0}, {2, 0}}}, {"2,3,2/1,9,1/2,4,2", [][]int{{0, 0}, {0, 2}, {2, 0}, {2, 2}}}, {"999,1/1,999", nil},
		{"1,2/3,4/3,5", [][]int{{1, 0}, {2, 0}}}, {"5,4,4/9,1,2", [][]int{{0, 1}, {0, 2}}},
	}
	for _, k := range known {
		files, _ := impl.ParseFiles(k.files)
		places, ok := impl.SaddlePlaces(files)
		checkPairs(t, "SaddlePlaces "+k.files, places, ok, k.places)
	}
	places, ok := impl.SaddlePlaces(sameFiles(8, 8, 999))
	if !ok || len(places) != 64 || !slices.Equal(places[0], []int{0, 0}) || !slices.Equal(places[8], []int{1, 0}) || !slices.Equal(places[63], []int{7, 7}) {
		t.Error("all are saddles", places, ok)
	}
}

// heightsNear returns all heights of files, those beside them, and the limits.
func heightsNear(files [][]int) []int {
	heights := []int{0, 1, 2, 500, 998, 999, 1000}
	for _, row := range files {
		for _, height := range row {
			heights = append(heights, height-1, height, height+1)
		}
	}
	slices.Sort(heights)
	return slices.Compact(heights)
}

// Promise 6: searches go on by one place.
func TestSearches(t *testing.T) {
	for _, files := range sortedSamples() {
		for _, height := range heightsNear(files) {
			what := "PlacesSearched " + showFiles(files) + showList([]int{height})
			places, ok := impl.PlacesSearched(files, height)
			checkPairs(t, what, places, ok, plainSearch(files, height, 0, len(files[0])-1))
			if len(places) == 0 || !slices.Equal(places[0], []int{0, len(files[0]) - 1}) {
				t.Error(what, "does not begin in the first row at the last column", places)
				continue
			}
			for k := 1; k < len(places); k++ {
				down, back := places[k][0]-places[k-1][0], places[k-1][1]-places[k][1]
				if down < 0 || back < 0 || down+back != 1 {
					t.Error(what, "does not go on by one place", places)
				}
			}
			last := places[len(places)-1]
			if found := files[last[0]][last[1]] == height; found != slices.Contains(slices.Concat(files...), height) {
				t.Error(what, "finds", found)
			}
		}
	}
}

func TestKnownSearches(t *testing.T) {
	known := []struct {
		files  string
		height int
		places [][]int
	}{
		{"5", 5, [][]int{{0, 0}}}, {"5", 0, [][]int{{0, 0}}}, {"5", 1000, [][]int{{0, 0}}}, {"5", 4, [][]int{{0, 0}}}, {"5", 6, [][]int{{0, 0}}},
		{"1,3/2,4", 3, [][]int{{0, 1}}}, {"1,3/2,4", 1, [][]int{{0, 1}, {0, 0}}}, {"1,3/2,4", 4, [][]int{{0, 1}, {1, 1}}}, {"1,3/2,4", 0, [][]int{{0, 1}, {0, 0}}},
		{"1,3/2,4", 5, [][]int{{0, 1}, {1, 1}}}, {"1,3/2,4", 1000, [][]int{{0, 1}, {1, 1}}}, {"1,5/2,6", 4, [][]int{{0, 1}, {0, 0}, {1, 0}}}, {"1,5/4,6", 3, [][]int{{0, 1}, {0, 0}, {1, 0}}},
		{"1,2,4", 1, [][]int{{0, 2}, {0, 1}, {0, 0}}}, {"1,2,4", 0, [][]int{{0, 2}, {0, 1}, {0, 0}}}, {"1,2,4", 3, [][]int{{0, 2}, {0, 1}}}, {"1,2,4", 5, [][]int{{0, 2}}},
		{"1/2/4", 4, [][]int{{0, 0}, {1, 0}, {2, 0}}}, {"1/2/4", 5, [][]int{{0, 0}, {1, 0}, {2, 0}}}, {"1/2/4", 3, [][]int{{0, 0}, {1, 0}, {2, 0}}}, {"1/2/4", 0, [][]int{{0, 0}}},
		{"7,7/7,7", 7, [][]int{{0, 1}}}, {"7,7/7,7", 6, [][]int{{0, 1}, {0, 0}}}, {"7,7/7,7", 8, [][]int{{0, 1}, {1, 1}}},
		{"1,2,2/2,2,3", 2, [][]int{{0, 2}}}, {"1,2,3/4,5,6/7,8,9", 7, [][]int{{0, 2}, {1, 2}, {2, 2}, {2, 1}, {2, 0}}}, {"1,4,7/2,5,8/3,6,9", 3, [][]int{{0, 2}, {0, 1}, {0, 0}, {1, 0}, {2, 0}}},
		{"1,999", 999, [][]int{{0, 1}}}, {"1,999", 1000, [][]int{{0, 1}}}, {"1,999", 1, [][]int{{0, 1}, {0, 0}}},
	}
	for _, k := range known {
		files, _ := impl.ParseFiles(k.files)
		places, ok := impl.PlacesSearched(files, k.height)
		checkPairs(t, "PlacesSearched "+k.files+showList([]int{k.height}), places, ok, k.places)
	}
	places, ok := impl.PlacesSearched(madeFiles(8, 8, func(row, column int) int { return 8*row + column + 1 }), 57)
	if !ok || len(places) != 15 || !slices.Equal(places[14], []int{7, 0}) {
		t.Error("the longest search", places, ok)
	}
}

func TestSearchesThatFail(t *testing.T) {
	for _, files := range sampleFiles() {
		if areSortedBoth(files) {
			continue
		}
		for _, height := range []int{0, 1, 2, 3, 500, 999, 1000} {
			places, ok := impl.PlacesSearched(files, height)
			checkNoFiles(t, "PlacesSearched "+showFiles(files)+showList([]int{height}), places, ok)
		}
	}
	for _, files := range []string{"3,4/1,2", "2,1/4,3", "3,1/2,4", "2,1", "2/1"} {
		unsorted, _ := impl.ParseFiles(files)
		for height := range 6 {
			places, ok := impl.PlacesSearched(unsorted, height)
			checkNoFiles(t, "PlacesSearched "+files, places, ok)
		}
	}
	for _, files := range append(sortedSamples(), wideFiles()...) {
		for _, height := range heightsThatAreNotAsked() {
			places, ok := impl.PlacesSearched(files, height)
			checkNoFiles(t, "PlacesSearched "+showFiles(files)+showList([]int{height}), places, ok)
		}
	}
}

// heightsThatAreNotAsked returns numbers for which no search can be told.
func heightsThatAreNotAsked() []int {
	return []int{-1, -2, -999, 1001, 1002, 1 << 32, 1<<32 + 2, -1 << 32, 1 << 62, math.MinInt, math.MinInt + 1, math.MinInt + 2, math.MaxInt - 1, math.MaxInt}
}

func TestCountUpTo(t *testing.T) {
	for _, files := range append(sampleFiles(), sortedSamples()...) {
		for _, height := range heightsNear(files) {
			n, ok := impl.CountUpTo(files, height)
			checkInt(t, "CountUpTo "+showFiles(files)+showList([]int{height}), n, ok, countAtMost(slices.Concat(files...), height))
		}
		n, ok := impl.CountUpTo(files, 0)
		checkInt(t, "CountUpTo 0 "+showFiles(files), n, ok, 0)
		for _, height := range []int{999, 1000} {
			n, ok = impl.CountUpTo(files, height)
			checkInt(t, "CountUpTo all "+showFiles(files), n, ok, len(files)*len(files[0]))
		}
		for _, height := range heightsThatAreNotAsked() {
			n, ok := impl.CountUpTo(files, height)
			checkFails(t, "CountUpTo "+showFiles(files)+showList([]int{height}), ok, n)
		}
	}
	for height, want := range []int{0, 1, 2, 3, 4, 4, 4} {
		n, ok := impl.CountUpTo([][]int{{3, 1}, {2, 4}}, height)
		checkInt(t, "CountUpTo", n, ok, want)
	}
	for height, want := range []int{0, 1, 1, 4, 4, 4, 5, 6} {
		n, ok := impl.CountUpTo([][]int{{3, 7, 3}, {1, 3, 6}}, height)
		checkInt(t, "CountUpTo heights that are alike", n, ok, want)
	}
}

func TestHeightOfRank(t *testing.T) {
	for _, files := range append(sampleFiles(), sortedSamples()...) {
		inOrder := plainInOrder(slices.Concat(files...))
		for rank, want := range inOrder {
			n, ok := impl.HeightOfRank(files, rank)
			checkInt(t, "HeightOfRank "+showFiles(files)+showList([]int{rank}), n, ok, want)
		}
		for _, rank := range append(heightsThatAreNotAsked(), len(inOrder), len(inOrder)+1, 64, 65, 1000) {
			n, ok := impl.HeightOfRank(files, rank)
			checkFails(t, "HeightOfRank "+showFiles(files)+showList([]int{rank}), ok, n)
		}
	}
	for rank, want := range []int{1, 3, 3, 3, 6, 7} {
		n, ok := impl.HeightOfRank([][]int{{3, 7, 3}, {1, 3, 6}}, rank)
		checkInt(t, "HeightOfRank", n, ok, want)
	}
	n, ok := impl.HeightOfRank([][]int{{3, 7, 3}, {1, 3, 6}}, 6)
	checkFails(t, "one more than the last rank", ok, n)
	n, ok = impl.HeightOfRank(madeFiles(8, 8, func(row, column int) int { return 999 - 8*row - column }), 63)
	checkInt(t, "the last rank of the greatest files", n, ok, 999)
}

func TestFileDisorder(t *testing.T) {
	for _, files := range append(sampleFiles(), sortedSamples()...) {
		n, ok := impl.FileDisorder(files)
		checkInt(t, "FileDisorder "+showFiles(files), n, ok, fallsInRows(files)+fallsInColumns(files))
	}
	known := []struct {
		files string
		want  int
	}{
		{"1", 0}, {"1,2", 0}, {"2,1", 1}, {"2/1", 1}, {"1/2", 0}, {"2,2/2,2", 0}, {"4,3/2,1", 4}, {"3,1/2,4", 2}, {"3,4/1,2", 2}, {"2,1/4,3", 2}, {"1,3/2,4", 0}, {"3,2,1", 2}, {"3/2/1", 2}, {"9,1,9,1", 2}, {"10,9/9,10", 2},
	}
	for _, k := range known {
		files, _ := impl.ParseFiles(k.files)
		n, ok := impl.FileDisorder(files)
		checkInt(t, "FileDisorder "+k.files, n, ok, k.want)
	}
	n, ok := impl.FileDisorder(madeFiles(8, 8, func(row, column int) int { return 999 - 8*row - column }))
	checkInt(t, "all pairs", n, ok, 112)
}

func TestExchangeFiles(t *testing.T) {
	for _, files := range sampleFiles() {
		rows := len(files)
		for a := -2; a <= rows+1; a++ {
			for b := -2; b <= rows+1; b++ {
				what := "ExchangeFiles " + showFiles(files) + showList([]int{a, b})
				exchanged, ok := impl.ExchangeFiles(files, a, b)
				if a < 0 || b < 0 || a >= rows || b >= rows || a == b {
					checkNoFiles(t, what, exchanged, ok)
					continue
				}
				want := cloneFiles(files)
				want[a], want[b] = files[b], files[a]
				checkPairs(t, what, exchanged, ok, want)
				back, ok := impl.ExchangeFiles(exchanged, a, b)
				checkPairs(t, "twice "+what, back, ok, files)
			}
		}
		for _, wrong := range append(heightsThatAreNotAsked(), 8, 9, 1000) {
			for _, k := range []int{0, rows - 1, wrong} {
				exchanged, ok := impl.ExchangeFiles(files, k, wrong)
				checkNoFiles(t, "ExchangeFiles"+showList([]int{k, wrong}), exchanged, ok)
				exchanged, ok = impl.ExchangeFiles(files, wrong, k)
				checkNoFiles(t, "ExchangeFiles"+showList([]int{wrong, k}), exchanged, ok)
			}
		}
	}
	exchanged, ok := impl.ExchangeFiles([][]int{{1, 2}, {3, 4}, {5, 6}}, 0, 2)
	checkPairs(t, "ExchangeFiles", exchanged, ok, [][]int{{5, 6}, {3, 4}, {1, 2}})
	exchanged, ok = impl.ExchangeFiles([][]int{{1, 2}, {1, 2}}, 1, 0)
	checkPairs(t, "rows that are alike", exchanged, ok, [][]int{{1, 2}, {1, 2}})
}

// plainSortedCount counts the ways in which different heights, the least one first, are put at the end of rows that stay no longer than those before.
func plainSortedCount(rows, columns int) int {
	ways := map[[4]int]int{{}: 1}
	for range rows * columns {
		more := map[[4]int]int{}
		for lengths, count := range ways {
			for row := range rows {
				longer := lengths
				longer[row]++
				if longer[row] <= columns && (row == 0 || longer[row] <= longer[row-1]) {
					more[longer] += count
				}
			}
		}
		ways = more
	}
	sum := 0
	for _, count := range ways {
		sum += count
	}
	return sum
}

func TestCountSortedFiles(t *testing.T) {
	known := [4][5]int{{1, 1, 1, 1, 1}, {1, 2, 5, 14, 42}, {1, 5, 42, 462, 6006}, {1, 14, 462, 24024, 1662804}}
	for rows := -3; rows <= 9; rows++ {
		for columns := -3; columns <= 9; columns++ {
			what := "CountSortedFiles" + showList([]int{rows, columns})
			n, ok := impl.CountSortedFiles(rows, columns)
			if rows < 1 || rows > 4 || columns < 1 || columns > 5 {
				checkFails(t, what, ok, n)
				continue
			}
			checkInt(t, what, n, ok, plainSortedCount(rows, columns))
			checkInt(t, what, n, ok, known[rows-1][columns-1])
		}
	}
	for _, wrong := range append(heightsThatAreNotAsked(), 0, 6, 1000) {
		for _, side := range []int{1, 2, 4, 5, wrong} {
			n, ok := impl.CountSortedFiles(wrong, side)
			checkFails(t, "CountSortedFiles"+showList([]int{wrong, side}), ok, n)
			n, ok = impl.CountSortedFiles(side, wrong)
			checkFails(t, "CountSortedFiles"+showList([]int{side, wrong}), ok, n)
		}
	}
}

// All orders of a few heights are put into files, and those that are sorted are counted.
func TestSortedFilesAreCounted(t *testing.T) {
	for rows := 1; rows <= 4; rows++ {
		for columns := 1; columns <= 5 && rows*columns <= 8; columns++ {
			want := 0
			for _, order := range allOrders(rows * columns) {
				files := filesOf(columns, order...)
				inRows, okRows := impl.AreRowsSorted(files)
				inColumns, okColumns := impl.AreColumnsSorted(files)
				if inRows && okRows && inColumns && okColumns {
					want++
				}
			}
			n, ok := impl.CountSortedFiles(rows, columns)
			checkInt(t, "CountSortedFiles"+showList([]int{rows, columns}), n, ok, want)
		}
	}
}

func TestFilesTexts(t *testing.T) {
	for _, files := range append(sampleFiles(), sortedSamples()...) {
		want := showFiles(files)
		s, ok := impl.FilesText(files)
		checkText(t, "FilesText", s, ok, want)
		back, ok := impl.ParseFiles(want)
		checkPairs(t, "ParseFiles "+want, back, ok, files)
	}
	known := []struct {
		text  string
		files [][]int
	}{
		{"1", [][]int{{1}}}, {"999", [][]int{{999}}}, {"10,100/9,99", [][]int{{10, 100}, {9, 99}}}, {"3,1/2,4", [][]int{{3, 1}, {2, 4}}}, {"1/2/3", [][]int{{1}, {2}, {3}}}, {"1,2,3", [][]int{{1, 2, 3}}},
		{"1,2,3,4,5,6,7,8", [][]int{{1, 2, 3, 4, 5, 6, 7, 8}}}, {"1/2/3/4/5/6/7/8", [][]int{{1}, {2}, {3}, {4}, {5}, {6}, {7}, {8}}},
		{strings.Repeat("999,999,999,999,999,999,999,999/", 7) + "999,999,999,999,999,999,999,999", sameFiles(8, 8, 999)},
	}
	for _, k := range known {
		s, ok := impl.FilesText(k.files)
		checkText(t, "FilesText", s, ok, k.text)
		files, ok := impl.ParseFiles(k.text)
		checkPairs(t, "ParseFiles "+k.text, files, ok, k.files)
	}
}

// noFilesTexts returns texts that are no FilesTexts.
func noFilesTexts() []string {
	texts := []string{
		"", " ", ",", "/", ",,", "//", ",/", "/,", "1,", ",1", "1/", "/1", "1,,2", "1//2", "1,/2", "1/,2", "1,2/", "/1,2", "1,2/3,4/", "1,2/3,4,", ",1,2/3,4", "1,2,/3,4", "1,2/,3,4", "1,2//3,4", "1,2/3,", "1,2/,4",
		"01", "001", "00", "0", "0,1", "1,0", "1/0", "01,2", "1,02", "1,2/03,4", "1,2/3,04", "0999", "1000", "1001", "1,1000", "1000/1", "9999", "-1", "-0", "+1", "+0", "+999", "1,+2", "1/-2", "--1", "++1", "-", "+", "1-", "1+2",
		" 1", "1 ", "1, 2", "1 ,2", "1/ 2", "1 /2", "1\n", "\n1", "1\t", "1\x00", "\x001", "1,2\n/3,4", "1,2/3,4\n", "1 2", "1.0", "1e0", "0x1", "0b1", "0o1", "1_0", "one", "x", "1,x", "x,1", "1/x", "x/1", "1;2", "1.2", "1\\2", "1|2",
		"1,2/3", "1/2,3", "1,2/3,4/5", "1,2/3,4/5,6,7", "1,2,3/4,5/6", "1/2/3/4/5/6/7/8,9",
		"1,2,3,4,5,6,7,8,9", "1/2/3/4/5/6/7/8/9", "1,2,3,4,5,6,7,8,", "1/2/3/4/5/6/7/8/", ",1,2,3,4,5,6,7,8", "/1/2/3/4/5/6/7/8", strings.Repeat("1,1,1,1,1,1,1,1/", 8), strings.Repeat("1,1,1,1,1,1,1,1/", 8) + "1,1,1,1,1,1,1,1",
		strings.Repeat("1,1,1,1,1,1,1,1/", 7) + "1,1,1,1,1,1,1", strings.Repeat("1,1,1,1,1,1,1,1/", 7) + "1,1,1,1,1,1,1,1,1", strings.Repeat("1/", 1000) + "1", strings.Repeat("1,", 1000) + "1",
		strings.Repeat(",", 100000), strings.Repeat("/", 100000), strings.Repeat(",/", 50000), strings.Repeat("1", 100000), strings.Repeat("0", 100000) + "1", "1," + strings.Repeat("9", 100000),
		"1\xff", "\xff1", "1,\xff", "1/\xff/2", "\xff", "１", "1，2", "1／2", "٣", "1,٢", "é", "1,é", "é/1", "\u00a01", "1\u2028", "\xef\xbb\xbf1", "½", "²",
	}
	for _, number := range []string{"9223372036854775807", "9223372036854775808", "-9223372036854775808", "-9223372036854775809", "18446744073709551615", "18446744073709551616", "18446744073709551617", "4294967297", "100000000000000000000000000000000000001"} {
		texts = append(texts, number, number+",1", "1,"+number, number+"/1", "1/"+number, "1,2/3,"+number)
	}
	return texts
}

func TestTextsThatAreNoFiles(t *testing.T) {
	for _, text := range noFilesTexts() {
		files, ok := impl.ParseFiles(text)
		checkNoFiles(t, "ParseFiles "+strconv.Quote(text[:min(len(text), 50)]), files, ok)
	}
	// A byte more, or another one, at any place of a text does not give another form of the same files.
	good := "12,3/5,40"
	for at := range len(good) + 1 {
		for code := range 256 {
			texts := []string{good[:at] + string([]byte{byte(code)}) + good[at:]}
			if at < len(good) {
				texts = append(texts, good[:at]+string([]byte{byte(code)})+good[at+1:], good[:at]+good[at+1:])
			}
			for _, text := range texts {
				files, ok := impl.ParseFiles(text)
				if !ok {
					checkNoFiles(t, "ParseFiles "+strconv.Quote(text), files, ok)
					continue
				}
				checkText(t, "read back", showFiles(files), ok, text)
				if !impl.AreFiles(files) {
					t.Error("no files", text, files)
				}
			}
		}
	}
}

// isFilesText tells by their form, and by the lengths of rows, which texts are FilesTexts.
func isFilesText(text string) bool {
	if !regexp.MustCompile(`^[1-9][0-9]{0,2}([,/][1-9][0-9]{0,2})*$`).MatchString(text) {
		return false
	}
	rows := strings.Split(text, "/")
	for _, row := range rows {
		if strings.Count(row, ",") != strings.Count(rows[0], ",") || strings.Count(row, ",") >= 8 {
			return false
		}
	}
	return len(rows) <= 8
}

func TestShortTextsOfFiles(t *testing.T) {
	for length := range 7 {
		for _, text := range textsOf("019,/", length) {
			files, ok := impl.ParseFiles(text)
			if !isFilesText(text) {
				checkNoFiles(t, "ParseFiles "+text, files, ok)
				continue
			}
			checkText(t, "read back "+text, showFiles(files), ok, text)
		}
	}
}

func TestOneSoldierAlone(t *testing.T) {
	for _, height := range []int{1, 2, 500, 998, 999} {
		files := [][]int{{height}}
		for _, change := range []func([][]int) ([][]int, bool){impl.SortFileRows, impl.SortFileColumns, impl.SortBoth, impl.TurnFiles} {
			changed, ok := change(files)
			checkPairs(t, "one soldier", changed, ok, files)
		}
		for _, isSorted := range []func([][]int) (bool, bool){impl.AreRowsSorted, impl.AreColumnsSorted} {
			sorted, ok := isSorted(files)
			checkBool(t, "sorted", sorted, ok, true)
		}
		n, ok := impl.ShortestOfTallest(files)
		checkInt(t, "shortest of tallest", n, ok, height)
		n, ok = impl.TallestOfShortest(files)
		checkInt(t, "tallest of shortest", n, ok, height)
		places, ok := impl.SaddlePlaces(files)
		checkPairs(t, "saddles", places, ok, [][]int{{0, 0}})
		n, ok = impl.HeightOfRank(files, 0)
		checkInt(t, "rank", n, ok, height)
		n, ok = impl.HeightOfRank(files, 1)
		checkFails(t, "rank", ok, n)
		n, ok = impl.FileDisorder(files)
		checkInt(t, "disorder", n, ok, 0)
		exchanged, ok := impl.ExchangeFiles(files, 0, 0)
		checkNoFiles(t, "exchanged with itself", exchanged, ok)
		s, ok := impl.FilesText(files)
		checkText(t, "text", s, ok, strconv.Itoa(height))
	}
	n, ok := impl.CountSortedFiles(1, 1)
	checkInt(t, "one way", n, ok, 1)
}

// answersOfFiles calls every function of files, and tells by name which of them succeed and which return more than zero values.
func answersOfFiles(files [][]int) (succeed, nonzero []string) {
	note := func(name string, isZero bool, ok bool) {
		if ok {
			succeed = append(succeed, name)
		}
		if !isZero {
			nonzero = append(nonzero, name)
		}
	}
	changed, ok := impl.SortFileRows(files)
	note("SortFileRows", len(changed) == 0, ok)
	changed, ok = impl.SortFileColumns(files)
	note("SortFileColumns", len(changed) == 0, ok)
	changed, ok = impl.SortBoth(files)
	note("SortBoth", len(changed) == 0, ok)
	sorted, ok := impl.AreRowsSorted(files)
	note("AreRowsSorted", !sorted, ok)
	sorted, ok = impl.AreColumnsSorted(files)
	note("AreColumnsSorted", !sorted, ok)
	changed, ok = impl.TurnFiles(files)
	note("TurnFiles", len(changed) == 0, ok)
	n, ok := impl.ShortestOfTallest(files)
	note("ShortestOfTallest", n == 0, ok)
	n, ok = impl.TallestOfShortest(files)
	note("TallestOfShortest", n == 0, ok)
	places, ok := impl.SaddlePlaces(files)
	note("SaddlePlaces", len(places) == 0, ok)
	places, ok = impl.PlacesSearched(files, 2)
	note("PlacesSearched", len(places) == 0, ok)
	n, ok = impl.CountUpTo(files, 999)
	note("CountUpTo", n == 0, ok)
	n, ok = impl.HeightOfRank(files, 0)
	note("HeightOfRank", n == 0, ok)
	n, ok = impl.FileDisorder(files)
	note("FileDisorder", n == 0, ok)
	changed, ok = impl.ExchangeFiles(files, 0, 1)
	note("ExchangeFiles", len(changed) == 0, ok)
	s, ok := impl.FilesText(files)
	note("FilesText", s == "", ok)
	return succeed, nonzero
}

// Promise 11: lists that are no files make every function fail, with zero values.
func TestListsThatAreNoFiles(t *testing.T) {
	for _, files := range noFiles() {
		if succeed, nonzero := answersOfFiles(files); len(succeed)+len(nonzero) > 0 {
			t.Error(files, succeed, nonzero)
		}
	}
	succeed, nonzero := answersOfFiles([][]int{{1, 3}, {2, 4}})
	if len(succeed) != 15 || len(nonzero) != 14 || slices.Contains(nonzero, "FileDisorder") {
		t.Error(succeed, nonzero)
	}
}

// Promise 11: arguments are not modified, nor is what lies behind the length of their rows and of the list.
func TestFilesAreNotModified(t *testing.T) {
	for _, text := range []string{"4,3,9,1/3,1,8,2/2,6,5,7/9,9,9,9", "1,2,9,1/3,4,8,2/5,6,1,1/7,8,1,1", "2,1,999,0/-1,1000,3,3/5,5,5,5/1,1,1,1"} {
		var room [][]int
		for row := range strings.SplitSeq(text, "/") {
			var numbers []int
			for part := range strings.SplitSeq(row, ",") {
				number, _ := strconv.Atoi(part)
				numbers = append(numbers, number)
			}
			room = append(room, numbers)
		}
		for rows := range 5 {
			for columns := range 5 {
				outer := slices.Clone(room)
				for k := range rows {
					outer[k] = outer[k][:columns]
				}
				answersOfFiles(outer[:rows])
				for k := range 5 {
					impl.ExchangeFiles(outer[:rows], k, 0)
					impl.PlacesSearched(outer[:rows], k)
				}
				for k := range room {
					if k < rows && len(outer[k]) != columns || k >= rows && len(outer[k]) != 4 || &outer[k][:1][0] != &room[k][0] {
						t.Error("another row", k, outer)
					}
				}
			}
		}
		if showFiles(room) != text {
			t.Error("modified", showFiles(room), "not", text)
		}
	}
}

// Promise 11: what lies behind the length of rows and of the list does not matter.
func TestRoomOfFilesIsNotRead(t *testing.T) {
	room := [][]int{{3, 1, 0}, {2, 4, 1000}, {7}, nil}
	files := [][]int{room[0][:2], room[1][:2], room[2], room[3]}[:2]
	succeed, _ := answersOfFiles(files)
	if len(succeed) != 14 || slices.Contains(succeed, "PlacesSearched") {
		t.Error("succeed", succeed)
	}
	both, ok := impl.SortBoth(files)
	checkPairs(t, "SortBoth", both, ok, [][]int{{1, 3}, {2, 4}})
}

// resultsOfFiles returns all lists that the functions make of files; 3,5/2,4/6,1 are to be given.
func resultsOfFiles(files [][]int) [][][]int {
	a, _ := impl.SortFileRows(files)
	b, _ := impl.SortFileColumns(files)
	c, _ := impl.SortBoth(files)
	d, _ := impl.TurnFiles(files)
	e, _ := impl.SaddlePlaces([][]int{{2, 2}, {2, 2}})
	f, _ := impl.PlacesSearched(c, 1)
	g, _ := impl.ExchangeFiles(files, 0, 2)
	h, _ := impl.ParseFiles("3,5/2,4/6,1")
	return [][][]int{a, b, c, d, e, f, g, h}
}

// Promise 11: results are new memory, and no two rows of one result share any.
func TestFileResultsAreNew(t *testing.T) {
	files := [][]int{{3, 5}, {2, 4}, {6, 1}}
	var want [][][]int
	for _, result := range resultsOfFiles(files) {
		if len(result) < 2 {
			t.Error("too few rows to tell", result)
		}
		want = append(want, cloneFiles(result))
	}
	for row := range 4 {
		for k, result := range resultsOfFiles(files) {
			if row >= len(result) {
				continue
			}
			clear(result[row][:cap(result[row])])
			checkPairs(t, "those before", result[:row], true, want[k][:row])
			checkPairs(t, "those behind", result[row+1:], true, want[k][row+1:])
			clear(result[:cap(result)])
		}
	}
	for k, result := range resultsOfFiles(files) {
		checkPairs(t, "again", result, true, want[k])
	}
	checkPairs(t, "the argument", files, true, [][]int{{3, 5}, {2, 4}, {6, 1}})
}

// Promise 11: rows of an argument that share memory are rows like others.
func TestRowsThatShareMemory(t *testing.T) {
	row := []int{3, 1, 2}
	files := [][]int{row, row, row}
	sorted, ok := impl.SortFileRows(files)
	checkPairs(t, "SortFileRows", sorted, ok, [][]int{{1, 2, 3}, {1, 2, 3}, {1, 2, 3}})
	exchanged, ok := impl.ExchangeFiles(files, 0, 2)
	checkPairs(t, "ExchangeFiles", exchanged, ok, [][]int{{3, 1, 2}, {3, 1, 2}, {3, 1, 2}})
	columns, ok := impl.SortFileColumns([][]int{row[:2], row[1:]})
	checkPairs(t, "SortFileColumns", columns, ok, [][]int{{1, 1}, {3, 2}})
	for _, result := range [][][]int{sorted, exchanged, columns} {
		before := slices.Clone(result[1])
		clear(result[0])
		checkList(t, "another row", result[1], true, before)
	}
	checkList(t, "the argument", row, true, []int{3, 1, 2})
}

// Promise 11: numbers and texts of whatever size are accepted, in all orders.
func TestFileArgumentsOfAllSizes(t *testing.T) {
	numbers := []int{math.MinInt, math.MinInt + 1, -1 << 32, -1000, -1, 0, 1, 2, 4, 5, 6, 7, 8, 9, 63, 64, 65, 998, 999, 1000, 1001, 1 << 32, 1 << 62, math.MaxInt - 1, math.MaxInt}
	lists := append(append(noFiles(), wideFiles()...), sortedSamples()...)
	for _, files := range lists {
		for _, n := range numbers {
			impl.PlacesSearched(files, n)
			impl.CountUpTo(files, n)
			impl.HeightOfRank(files, n)
			for _, m := range numbers {
				impl.ExchangeFiles(files, n, m)
			}
		}
	}
	for _, n := range numbers {
		for _, m := range numbers {
			impl.CountSortedFiles(n, m)
			answersOfFiles([][]int{{n, m}, {m, n}})
			answersOfFiles([][]int{{n}, {m, n}})
		}
	}
	for _, text := range slices.Concat(noFilesTexts(), noPacesTexts(), noBeats(), noWords(), noFacings()) {
		impl.ParseFiles(text)
	}
}
