package tests

import (
	"math"
	"regexp"
	"slices"
	"strconv"
	"strings"
	"testing"

	"loop.example/g01332/impl"
)

func clueOf(kind, a, b, c int) impl.Clue { return impl.Clue{Kind: kind, A: a, B: b, C: c} }

func puzzleOf(soldiers int, clues ...impl.Clue) impl.Puzzle {
	return impl.Puzzle{Soldiers: soldiers, Clues: clues}
}

func showClue(c impl.Clue) string {
	return strconv.Itoa(c.Kind) + "." + strconv.Itoa(c.A) + "." + strconv.Itoa(c.B) + "." + strconv.Itoa(c.C)
}

func showPuzzle(p impl.Puzzle) string {
	text := strconv.Itoa(p.Soldiers) + ":"
	for k, c := range p.Clues {
		if k > 0 {
			text += ","
		}
		text += showClue(c)
	}
	return text
}

func samePuzzle(p, q impl.Puzzle) bool {
	return p.Soldiers == q.Soldiers && slices.Equal(p.Clues, q.Clues)
}

func clonePuzzle(p impl.Puzzle) impl.Puzzle { return puzzleOf(p.Soldiers, slices.Clone(p.Clues)...) }

func checkPuzzle(t *testing.T, what string, got impl.Puzzle, ok bool, want impl.Puzzle) {
	t.Helper()
	if !ok || !samePuzzle(got, want) {
		t.Errorf("%s: %s, %v, not %s", what, showPuzzle(got), ok, showPuzzle(want))
	}
}

func checkNoPuzzle(t *testing.T, what string, got impl.Puzzle, ok bool) {
	t.Helper()
	if ok || got.Soldiers != 0 || len(got.Clues) > 0 {
		t.Errorf("%s: %s, %v, but it fails", what, showPuzzle(got), ok)
	}
}

func checkNoTexts(t *testing.T, what string, got []string, ok bool) {
	t.Helper()
	if ok || len(got) > 0 {
		t.Errorf("%s: %v, %v, but it fails", what, got, ok)
	}
}

// plainTold returns the C that makes a row fit a clue of a kind, with A and B, from the rows behind each tick.
func plainTold(row string, kind, a, b int) int {
	path := plainPath(row)
	switch kind {
	case 0:
		if path[min(b, len(path)-1)][a] == '>' {
			return 1
		}
		return 0
	case 1:
		return strings.Count(row, ">")
	case 2:
		return len(path) - 1
	case 3:
		return strings.Count(row, "><")
	}
	turns := 0
	for k := range len(path) - 1 {
		if path[k][a] != path[k+1][a] {
			turns++
		}
	}
	return turns
}

func plainFits(c impl.Clue, row string) bool { return plainTold(row, c.Kind, c.A, c.B) == c.C }

func plainSolutions(p impl.Puzzle) []string {
	var rows []string
	for _, row := range plainRows(p.Soldiers) {
		if !slices.ContainsFunc(p.Clues, func(c impl.Clue) bool { return !plainFits(c, row) }) {
			rows = append(rows, row)
		}
	}
	return rows
}

// plainWithout returns the puzzle without one clue.
func plainWithout(p impl.Puzzle, without int) impl.Puzzle {
	q := puzzleOf(p.Soldiers)
	for k, c := range p.Clues {
		if k != without {
			q.Clues = append(q.Clues, c)
		}
	}
	return q
}

func plainHarder(p impl.Puzzle) impl.Puzzle {
	isOut := make([]bool, len(p.Clues))
	kept := func() impl.Puzzle {
		q := puzzleOf(p.Soldiers)
		for k, c := range p.Clues {
			if !isOut[k] {
				q.Clues = append(q.Clues, c)
			}
		}
		return q
	}
	for k := range p.Clues {
		isOut[k] = true
		isOut[k] = len(plainSolutions(kept())) == 1
	}
	return kept()
}

// allClues returns all clues of rows of so many soldiers.
func allClues(soldiers int) []impl.Clue {
	var clues []impl.Clue
	for a := range soldiers {
		for b := 0; b <= 20; b++ {
			clues = append(clues, clueOf(0, a, b, 0), clueOf(0, a, b, 1), clueOf(4, a, 0, b))
		}
	}
	for c := range soldiers + 1 {
		clues = append(clues, clueOf(1, 0, 0, c))
	}
	for c := 0; c <= 20; c++ {
		clues = append(clues, clueOf(2, 0, 0, c))
	}
	for c := range 9 {
		clues = append(clues, clueOf(3, 0, 0, c))
	}
	return clues
}

// chosenClues returns clues of each kind of rows of so many soldiers, with numbers at their limits and between them.
func chosenClues(soldiers int) []impl.Clue {
	last, middle := soldiers-1, soldiers/2
	clues := []impl.Clue{clueOf(1, 0, 0, 0), clueOf(1, 0, 0, middle), clueOf(1, 0, 0, soldiers), clueOf(3, 0, 0, 0), clueOf(3, 0, 0, 1), clueOf(3, 0, 0, 2), clueOf(3, 0, 0, 8)}
	for _, ticks := range []int{0, 1, 2, last, 20} {
		clues = append(clues, clueOf(2, 0, 0, ticks), clueOf(0, last, ticks, 0), clueOf(0, 0, ticks, 1), clueOf(0, middle, ticks, ticks%2), clueOf(4, 0, 0, ticks), clueOf(4, last, 0, ticks), clueOf(4, middle, 0, ticks))
	}
	return clues
}

// cluesOf returns clues of each kind that a row fits.
func cluesOf(row string) []impl.Clue {
	var clues []impl.Clue
	for kind := 1; kind <= 3; kind++ {
		clues = append(clues, clueOf(kind, 0, 0, plainTold(row, kind, 0, 0)))
	}
	for a := range len(row) {
		clues = append(clues, clueOf(4, a, 0, plainTold(row, 4, a, 0)))
		for _, b := range []int{0, 1, 3, 20} {
			clues = append(clues, clueOf(0, a, b, plainTold(row, 0, a, b)))
		}
	}
	return clues
}

// someOf returns so many of some clues, from a place on, by steps around.
func someOf(clues []impl.Clue, from, step, count int) []impl.Clue {
	var some []impl.Clue
	for k := range count {
		some = append(some, clues[(from+k*step)%len(clues)])
	}
	return some
}

// samplePuzzles returns puzzles with few clues and with many, that some row fits, that none does, and that all do.
func samplePuzzles() []impl.Puzzle {
	puzzles := []impl.Puzzle{}
	for soldiers := 1; soldiers <= 8; soldiers++ {
		puzzles = append(puzzles, puzzleOf(soldiers))
		clues := chosenClues(soldiers)
		for k, c := range clues {
			puzzles = append(puzzles, puzzleOf(soldiers, c), puzzleOf(soldiers, c, c))
			for count := 2; count <= 6 && soldiers <= 5; count++ {
				puzzles = append(puzzles, puzzleOf(soldiers, someOf(clues, k, 2*count+1, count)...))
			}
		}
		rows := plainRows(soldiers)
		for k := 0; k < len(rows); k += len(rows)/16 + 1 {
			told := cluesOf(rows[k])
			for count := 2; count <= 6; count++ {
				puzzles = append(puzzles, puzzleOf(soldiers, someOf(told, k, 4, count)...), puzzleOf(soldiers, someOf(told, k*count, 7, count)...))
			}
		}
	}
	return puzzles
}

// smallPuzzles returns all puzzles of up to two of the clues that some chosen numbers make, for short rows.
func smallPuzzles() []impl.Puzzle {
	var puzzles []impl.Puzzle
	for soldiers := 1; soldiers <= 3; soldiers++ {
		clues := chosenClues(soldiers)
		for _, c := range clues {
			for _, d := range clues {
				puzzles = append(puzzles, puzzleOf(soldiers, c, d))
			}
		}
		for _, c := range allClues(soldiers) {
			puzzles = append(puzzles, puzzleOf(soldiers, c))
		}
	}
	return puzzles
}

// noNumbers returns numbers that are none of a clue or of a puzzle, wherever they stand.
func noNumbers() []int {
	return []int{-1, -2, -8, -20, 21, 22, 100, 1 << 32, 1<<32 + 1, -1 << 32, -1<<32 + 1, 1 << 62, math.MinInt, math.MinInt + 1, math.MaxInt - 1, math.MaxInt}
}

// noHiddenCounts returns numbers of soldiers that no hidden row has.
func noHiddenCounts() []int { return append(noNumbers(), 0, 9, 10, 12, 16, 60) }

// noCluesOf returns clues that are none of rows of so many soldiers: of other kinds, with numbers beyond each limit, and that tell something of what is not told of their kind.
func noCluesOf(soldiers int) []impl.Clue {
	clues := []impl.Clue{
		clueOf(-1, 0, 0, 0), clueOf(5, 0, 0, 0), clueOf(6, 0, 0, 0), clueOf(-5, 0, 0, 0),
		clueOf(0, soldiers, 0, 0), clueOf(0, soldiers, 0, 1), clueOf(0, 0, 21, 0), clueOf(0, 0, 20, 2), clueOf(0, 0, 0, 2), clueOf(0, 0, 0, -1), clueOf(0, 0, -1, 1), clueOf(0, -1, 0, 1),
		clueOf(1, 0, 0, soldiers+1), clueOf(1, 1, 0, 0), clueOf(1, 0, 1, 0), clueOf(1, 1, 1, 1), clueOf(1, -1, 0, 1), clueOf(1, 0, -1, 1),
		clueOf(2, 0, 0, 21), clueOf(2, 1, 0, 1), clueOf(2, 0, 1, 1), clueOf(2, -1, 0, 0), clueOf(2, 0, -1, 0),
		clueOf(3, 0, 0, 9), clueOf(3, 1, 0, 1), clueOf(3, 0, 1, 1), clueOf(3, 0, -1, 0), clueOf(3, -1, 0, 0),
		clueOf(4, soldiers, 0, 1), clueOf(4, 0, 0, 21), clueOf(4, 0, 1, 0), clueOf(4, soldiers-1, 1, 1), clueOf(4, 0, -1, 0), clueOf(4, -1, 0, 0),
	}
	for _, number := range noNumbers() {
		clues = append(clues, clueOf(number, 0, 0, 0), clueOf(number, number, number, number))
		for kind := range 5 {
			clues = append(clues, clueOf(kind, number, 0, 0), clueOf(kind, 0, number, 0), clueOf(kind, 0, 0, number))
		}
	}
	return clues
}

// noPuzzles returns puzzles that are none: with other numbers of soldiers, too many clues, or a clue that is none at any place.
func noPuzzles() []impl.Puzzle {
	puzzles := []impl.Puzzle{{}}
	for _, soldiers := range noHiddenCounts() {
		puzzles = append(puzzles, puzzleOf(soldiers), puzzleOf(soldiers, clueOf(2, 0, 0, 1)), puzzleOf(soldiers, clueOf(0, 0, 0, 1), clueOf(1, 0, 0, 1)), puzzleOf(soldiers, clueOf(0, soldiers-1, 0, 1)))
	}
	for soldiers := 1; soldiers <= 8; soldiers++ {
		for _, count := range []int{7, 8, 100} {
			puzzles = append(puzzles, puzzleOf(soldiers, someOf(chosenClues(soldiers), 0, 3, count)...))
		}
		for _, c := range noCluesOf(soldiers) {
			for _, others := range []int{0, 1, 5} {
				good := someOf(chosenClues(soldiers), 1, 5, others)
				puzzles = append(puzzles, puzzleOf(soldiers, slices.Insert(slices.Clone(good), 0, c)...), puzzleOf(soldiers, append(slices.Clone(good), c)...), puzzleOf(soldiers, slices.Insert(slices.Clone(good), others/2, c)...))
			}
		}
	}
	return puzzles
}

func TestPuzzleConstants(t *testing.T) {
	if impl.MaxHidden != 8 || impl.MaxClues != 6 {
		t.Error("limits", impl.MaxHidden, impl.MaxClues)
	}
}

func TestPuzzleExample(t *testing.T) {
	p, ok := impl.ParsePuzzle("3:1.0.0.1,2.0.0.2")
	checkPuzzle(t, "the puzzle", p, ok, puzzleOf(3, clueOf(1, 0, 0, 1), clueOf(2, 0, 0, 2)))
	rows, ok := impl.Solutions(p)
	checkList(t, "solutions", rows, ok, []string{"><<"})
	turns, ok := impl.TurnsOfEach("><<")
	checkList(t, "turns", turns, ok, []int{1, 2, 1})
	left, ok := impl.LeftByClues(p)
	checkList(t, "left", left, ok, []int{8, 3, 1})
	for text, want := range map[string]string{"2:3.0.0.1": "><", "3:0.0.0.1": ">??"} {
		p, ok := impl.ParsePuzzle(text)
		if !ok {
			t.Error("no puzzle", text)
		}
		signs, ok := impl.SureSigns(p)
		checkText(t, "SureSigns "+text, signs, ok, want)
	}
}

func TestIsClue(t *testing.T) {
	for soldiers := 1; soldiers <= 8; soldiers++ {
		isOne := map[impl.Clue]bool{}
		for _, c := range allClues(soldiers) {
			isOne[c] = true
			if !impl.IsClue(soldiers, c) {
				t.Error(soldiers, showClue(c), "is a clue")
			}
		}
		for _, c := range noCluesOf(soldiers) {
			if impl.IsClue(soldiers, c) {
				t.Error(soldiers, showClue(c), "is no clue")
			}
		}
		for kind := -1; kind <= 5; kind++ {
			for a := -1; a <= 9; a++ {
				for b := -1; b <= 21; b++ {
					for c := -1; c <= 21; c++ {
						clue := clueOf(kind, a, b, c)
						if got := impl.IsClue(soldiers, clue); got != isOne[clue] {
							t.Error(soldiers, showClue(clue), got)
						}
					}
				}
			}
		}
	}
}

func TestCluesOfNoRows(t *testing.T) {
	for _, soldiers := range noHiddenCounts() {
		for _, c := range append(allClues(3), noCluesOf(3)...) {
			if impl.IsClue(soldiers, c) {
				t.Error(soldiers, showClue(c), "is no clue")
			}
		}
		for _, c := range []impl.Clue{clueOf(0, soldiers-1, 0, 0), clueOf(1, 0, 0, soldiers), clueOf(4, soldiers-1, 0, 0), {}} {
			if impl.IsClue(soldiers, c) {
				t.Error(soldiers, showClue(c), "is no clue")
			}
		}
	}
}

func TestIsPuzzle(t *testing.T) {
	for _, p := range slices.Concat(samplePuzzles(), smallPuzzles()) {
		if !impl.IsPuzzle(p) {
			t.Error(showPuzzle(p), "is a puzzle")
		}
	}
	for _, p := range noPuzzles() {
		if impl.IsPuzzle(p) {
			t.Error(showPuzzle(p), "is no puzzle")
		}
	}
	for soldiers := 1; soldiers <= 8; soldiers++ {
		for count := range 9 {
			p := puzzleOf(soldiers, slices.Repeat([]impl.Clue{clueOf(1, 0, 0, 1)}, count)...)
			if got := impl.IsPuzzle(p); got != (count <= 6) {
				t.Error(showPuzzle(p), got)
			}
		}
		if !impl.IsPuzzle(impl.Puzzle{Soldiers: soldiers, Clues: nil}) || !impl.IsPuzzle(impl.Puzzle{Soldiers: soldiers, Clues: []impl.Clue{}}) {
			t.Error("a puzzle may have no clue", soldiers)
		}
	}
	// What is a clue of some row may be none of a shorter one.
	for _, p := range []impl.Puzzle{puzzleOf(3, clueOf(0, 3, 0, 1)), puzzleOf(3, clueOf(1, 0, 0, 4)), puzzleOf(3, clueOf(4, 3, 0, 1)), puzzleOf(1, clueOf(0, 1, 0, 0))} {
		if impl.IsPuzzle(p) {
			t.Error(showPuzzle(p), "is no puzzle")
		}
		p.Soldiers++
		if !impl.IsPuzzle(p) {
			t.Error(showPuzzle(p), "is a puzzle")
		}
	}
}

func TestDoesFit(t *testing.T) {
	for _, row := range shortRows(8) {
		for _, c := range allClues(len(row)) {
			fits, ok := impl.DoesFit(c, row)
			if !ok || fits != plainFits(c, row) {
				t.Error("DoesFit", showClue(c), row, fits, ok)
			}
		}
	}
}

func TestKnownFits(t *testing.T) {
	known := []struct {
		clue impl.Clue
		row  string
		fits bool
	}{
		{clueOf(0, 0, 0, 1), ">", true}, {clueOf(0, 0, 20, 1), ">", true}, {clueOf(0, 0, 0, 0), ">", false}, {clueOf(0, 0, 20, 0), "<", true}, {clueOf(1, 0, 0, 0), "<", true}, {clueOf(1, 0, 0, 1), "<", false}, {clueOf(2, 0, 0, 0), ">", true}, {clueOf(3, 0, 0, 0), ">", true}, {clueOf(4, 0, 0, 0), "<", true}, {clueOf(4, 0, 0, 1), "<", false},
		{clueOf(0, 0, 0, 1), ">><", true}, {clueOf(0, 1, 0, 1), ">><", true}, {clueOf(0, 1, 1, 1), ">><", false}, {clueOf(0, 1, 1, 0), ">><", true}, {clueOf(0, 0, 1, 1), ">><", true}, {clueOf(0, 0, 2, 0), ">><", true}, {clueOf(0, 1, 2, 1), ">><", true}, {clueOf(0, 0, 20, 0), ">><", true}, {clueOf(0, 2, 1, 1), ">><", true},
		{clueOf(1, 0, 0, 2), ">><", true}, {clueOf(2, 0, 0, 2), ">><", true}, {clueOf(2, 0, 0, 1), ">><", false}, {clueOf(3, 0, 0, 1), ">><", true}, {clueOf(3, 0, 0, 2), ">><", false}, {clueOf(4, 0, 0, 1), ">><", true}, {clueOf(4, 1, 0, 2), ">><", true}, {clueOf(4, 2, 0, 1), ">><", true}, {clueOf(4, 1, 0, 1), ">><", false},
		{clueOf(3, 0, 0, 4), "><><><><", true}, {clueOf(2, 0, 0, 7), "><<<<<<<", true}, {clueOf(4, 1, 0, 2), "><<<<<<<", true}, {clueOf(4, 7, 0, 1), "><<<<<<<", true}, {clueOf(2, 0, 0, 0), "<<<<>>>>", true}, {clueOf(2, 0, 0, 7), ">>>><<<<", true}, {clueOf(4, 3, 0, 7), ">>>><<<<", true}, {clueOf(4, 0, 0, 1), ">>>><<<<", true}, {clueOf(0, 4, 7, 1), ">>>><<<<", true}, {clueOf(0, 3, 20, 0), ">>>><<<<", true},
	}
	for _, k := range known {
		fits, ok := impl.DoesFit(k.clue, k.row)
		checkBool(t, "DoesFit "+showClue(k.clue)+" "+k.row, fits, ok, k.fits)
	}
}

func TestWhatDoesNotFit(t *testing.T) {
	for soldiers := 1; soldiers <= 8; soldiers++ {
		for _, row := range plainRows(soldiers)[:2] {
			for _, c := range noCluesOf(soldiers) {
				fits, ok := impl.DoesFit(c, row)
				checkNoBool(t, "DoesFit "+showClue(c)+" "+row, fits, ok)
			}
		}
	}
	for _, text := range noHiddenRows() {
		for _, c := range append(chosenClues(3), clueOf(0, len(text), 0, 0), clueOf(0, len(text)-1, 0, 0), clueOf(1, 0, 0, len(text))) {
			fits, ok := impl.DoesFit(c, text)
			checkNoBool(t, "DoesFit "+showClue(c)+" "+strconv.Quote(text[:min(len(text), 20)]), fits, ok)
		}
	}
}

// noHiddenRows returns texts that are no rows, or rows of more than MaxHidden soldiers.
func noHiddenRows() []string {
	texts := append(noOrderedRows(), "<<<<<<<<<", ">>>>>>>>>", "><><><><>", "<<<<<<<<<<", ">>>><<<<x", "<<<<<<<x", "x>>>>>>>", "<<<\x00", "\xff<<", "é", "<é", "?", ">??", "<> ", "1", "><\n", "<<<<<<<<\n")
	return append(texts, strings.Repeat(">", 12), strings.Repeat("<", 40), strings.Repeat("<", 1<<8+3))
}

// Promise 9: solutions are all rows that fit all clues.
func TestPuzzles(t *testing.T) {
	none, one, all := 0, 0, 0
	for _, p := range slices.Concat(samplePuzzles(), smallPuzzles()) {
		checkSolutions(t, p)
		checkCounts(t, p)
		switch len(plainSolutions(p)) {
		case 0:
			none++
		case 1:
			one++
		case 1 << p.Soldiers:
			all++
		}
	}
	if none < 100 || one < 100 || all < 100 {
		t.Error("samples", none, one, all)
	}
}

func checkSolutions(t *testing.T, p impl.Puzzle) {
	t.Helper()
	what := showPuzzle(p)
	want := plainSolutions(p)
	rows, ok := impl.Solutions(p)
	checkList(t, "Solutions "+what, rows, ok, want)
	count, ok := impl.CountSolutions(p)
	checkInt(t, "CountSolutions "+what, count, ok, len(want))
	is, ok := impl.IsSolved(p)
	checkBool(t, "IsSolved "+what, is, ok, len(want) == 1)
	first, okFirst := impl.FirstSolution(p)
	signs, okSigns := impl.SureSigns(p)
	harder, okHarder := impl.HarderPuzzle(p)
	if len(want) == 0 {
		checkNoText(t, "FirstSolution "+what, first, okFirst)
		checkNoText(t, "SureSigns "+what, signs, okSigns)
	} else {
		checkText(t, "FirstSolution "+what, first, okFirst, want[0])
		checkText(t, "SureSigns "+what, signs, okSigns, plainSigns(want))
	}
	if len(want) == 1 {
		checkPuzzle(t, "HarderPuzzle "+what, harder, okHarder, plainHarder(p))
		checkHarder(t, p, harder)
	} else {
		checkNoPuzzle(t, "HarderPuzzle "+what, harder, okHarder)
	}
	for _, row := range rows {
		for _, c := range p.Clues {
			fits, ok := impl.DoesFit(c, row)
			checkBool(t, "DoesFit "+showClue(c)+" "+row, fits, ok, true)
		}
	}
}

// plainSigns returns for each soldier the sign that all rows have, or ?.
func plainSigns(rows []string) string {
	signs := ""
	for k := range len(rows[0]) {
		rights := 0
		for _, row := range rows {
			if row[k] == '>' {
				rights++
			}
		}
		switch rights {
		case 0:
			signs += "<"
		case len(rows):
			signs += ">"
		default:
			signs += "?"
		}
	}
	return signs
}

// checkHarder checks that the puzzle that p was made harder to is solved by the same row, and that no clue can be spared.
func checkHarder(t *testing.T, p, harder impl.Puzzle) {
	t.Helper()
	what := "of " + showPuzzle(harder)
	want, _ := impl.FirstSolution(p)
	row, ok := impl.FirstSolution(harder)
	checkText(t, "the solution "+what, row, ok, want)
	is, ok := impl.IsSolved(harder)
	checkBool(t, "IsSolved "+what, is, ok, true)
	needless, ok := impl.NeedlessClues(harder)
	checkList(t, "needless "+what, needless, ok, nil)
	again, ok := impl.HarderPuzzle(harder)
	checkPuzzle(t, "again "+what, again, ok, harder)
}

func checkCounts(t *testing.T, p impl.Puzzle) {
	t.Helper()
	what := showPuzzle(p)
	count := len(plainSolutions(p))
	left, least, best := []int{1 << p.Soldiers}, math.MaxInt, 0
	var needless []int
	for k, c := range p.Clues {
		left = append(left, len(plainSolutions(puzzleOf(p.Soldiers, p.Clues[:k+1]...))))
		if alone := len(plainSolutions(puzzleOf(p.Soldiers, c))); alone < least {
			least, best = alone, k
		}
		if len(plainSolutions(plainWithout(p, k))) == count {
			needless = append(needless, k)
		}
	}
	got, ok := impl.LeftByClues(p)
	checkList(t, "LeftByClues "+what, got, ok, left)
	got, ok = impl.NeedlessClues(p)
	checkList(t, "NeedlessClues "+what, got, ok, needless)
	k, ok := impl.BestClue(p)
	if len(p.Clues) == 0 {
		checkFails(t, "BestClue "+what, ok, k)
	} else {
		checkInt(t, "BestClue "+what, k, ok, best)
	}
}

func TestKnownPuzzles(t *testing.T) {
	known := []struct {
		text     string
		rows     []string
		signs    string
		left     []int
		best     int
		needless []int
		harder   string
	}{
		// No clue: all rows.
		{"1:", []string{"<", ">"}, "?", []int{2}, -1, nil, ""},
		{"2:", []string{"<<", "<>", "><", ">>"}, "??", []int{4}, -1, nil, ""},
		// Clues that all rows fit.
		{"1:3.0.0.0", []string{"<", ">"}, "?", []int{2, 2}, 0, []int{0}, ""},
		{"1:2.0.0.0,4.0.0.0,3.0.0.0", []string{"<", ">"}, "?", []int{2, 2, 2, 2}, 0, []int{0, 1, 2}, ""},
		// No solution.
		{"1:1.0.0.0,1.0.0.1", nil, "", []int{2, 1, 0}, 0, nil, ""},
		{"1:3.0.0.1", nil, "", []int{2, 0}, 0, nil, ""},
		{"2:3.0.0.8,2.0.0.20,4.1.0.20", nil, "", []int{4, 0, 0, 0}, 0, []int{0, 1, 2}, ""},
		{"3:1.0.0.0,3.0.0.1", nil, "", []int{8, 1, 0}, 0, nil, ""},
		{"3:2.0.0.5,1.0.0.0", nil, "", []int{8, 0, 0}, 0, []int{1}, ""},
		// Just one, with clues to spare or not.
		{"1:0.0.0.1", []string{">"}, ">", []int{2, 1}, 0, nil, "1:0.0.0.1"},
		{"2:3.0.0.1,2.0.0.1", []string{"><"}, "><", []int{4, 1, 1}, 0, []int{0, 1}, "2:2.0.0.1"},
		{"2:2.0.0.1,3.0.0.1", []string{"><"}, "><", []int{4, 1, 1}, 0, []int{0, 1}, "2:3.0.0.1"},
		{"2:1.0.0.1,3.0.0.1", []string{"><"}, "><", []int{4, 2, 1}, 1, []int{0}, "2:3.0.0.1"},
		{"2:3.0.0.1,1.0.0.1", []string{"><"}, "><", []int{4, 1, 1}, 0, []int{1}, "2:3.0.0.1"},
		{"2:1.0.0.2,1.0.0.2", []string{">>"}, ">>", []int{4, 1, 1}, 0, []int{0, 1}, "2:1.0.0.2"},
		{"2:0.0.0.1,0.1.0.0", []string{"><"}, "><", []int{4, 2, 1}, 0, nil, "2:0.0.0.1,0.1.0.0"},
		{"3:1.0.0.1,2.0.0.2", []string{"><<"}, "><<", []int{8, 3, 1}, 1, nil, "3:1.0.0.1,2.0.0.2"},
		{"3:3.0.0.1,1.0.0.1,2.0.0.2", []string{"><<"}, "><<", []int{8, 4, 2, 1}, 2, []int{0}, "3:1.0.0.1,2.0.0.2"},
		{"3:0.0.0.1,0.1.0.0,0.2.0.0,1.0.0.1", []string{"><<"}, "><<", []int{8, 4, 2, 1, 1}, 3, []int{0, 1, 2, 3}, "3:0.1.0.0,0.2.0.0,1.0.0.1"},
		// Later rows: of one who looks to the right this one is the last one behind 20 ticks.
		{"3:0.2.20.1", []string{"<<>", "<><", "<>>", "><<", "><>", ">><", ">>>"}, "???", []int{8, 7}, 0, nil, ""},
		{"3:0.0.20.1", []string{">>>"}, ">>>", []int{8, 1}, 0, nil, "3:0.0.20.1"},
		{"3:0.2.20.0", []string{"<<<"}, "<<<", []int{8, 1}, 0, nil, "3:0.2.20.0"},
		{"3:0.2.1.1,1.0.0.1", []string{"<<>", "<><"}, "<??", []int{8, 6, 2}, 1, nil, ""},
		// Rows at rest from the beginning.
		{"3:2.0.0.0", []string{"<<<", "<<>", "<>>", ">>>"}, "???", []int{8, 4}, 0, nil, ""},
		{"3:2.0.0.0,1.0.0.2", []string{"<>>"}, "<>>", []int{8, 4, 1}, 1, nil, "3:2.0.0.0,1.0.0.2"},
		{"3:4.1.0.2", []string{"><<", ">><"}, ">?<", []int{8, 2}, 0, nil, ""},
	}
	for _, k := range known {
		p, ok := impl.ParsePuzzle(k.text)
		if !ok {
			t.Error("no puzzle", k.text)
		}
		rows, ok := impl.Solutions(p)
		checkList(t, "Solutions "+k.text, rows, ok, k.rows)
		signs, ok := impl.SureSigns(p)
		if signs != k.signs || ok != (k.signs != "") {
			t.Error("SureSigns", k.text, signs, ok)
		}
		left, ok := impl.LeftByClues(p)
		checkList(t, "LeftByClues "+k.text, left, ok, k.left)
		best, ok := impl.BestClue(p)
		if best != max(k.best, 0) || ok != (k.best >= 0) {
			t.Error("BestClue", k.text, best, ok)
		}
		needless, ok := impl.NeedlessClues(p)
		checkList(t, "NeedlessClues "+k.text, needless, ok, k.needless)
		harder, ok := impl.HarderPuzzle(p)
		if k.harder == "" {
			checkNoPuzzle(t, "HarderPuzzle "+k.text, harder, ok)
		} else if !ok || showPuzzle(harder) != k.harder {
			t.Error("HarderPuzzle", k.text, showPuzzle(harder), ok)
		}
	}
}

func TestBestClues(t *testing.T) {
	clues := []impl.Clue{clueOf(3, 0, 0, 0), clueOf(0, 0, 0, 1), clueOf(1, 0, 0, 1), clueOf(1, 0, 0, 0)}
	for k, alone := range []int{4, 4, 3, 1} {
		count, ok := impl.CountSolutions(puzzleOf(3, clues[k]))
		checkInt(t, "alone "+showClue(clues[k]), count, ok, alone)
	}
	for best, order := range map[int][][]int{0: {{0}, {0, 1}, {1, 0}, {0, 0, 0, 0, 0, 0}, {3, 3, 3}, {2, 0, 1}, {2, 2}, {3, 2, 1, 0, 3}}, 1: {{0, 2}, {0, 2, 2, 1}, {2, 3, 3, 2, 1}}, 2: {{0, 1, 2}, {1, 0, 2, 2}, {2, 2, 3}}, 5: {{0, 1, 2, 2, 1, 3}}} {
		for _, list := range order {
			p := puzzleOf(3)
			for _, k := range list {
				p.Clues = append(p.Clues, clues[k])
			}
			got, ok := impl.BestClue(p)
			checkInt(t, "BestClue "+showPuzzle(p), got, ok, best)
		}
	}
	// A clue that no row fits is the best one.
	got, ok := impl.BestClue(puzzleOf(8, clueOf(1, 0, 0, 0), clueOf(2, 0, 0, 20), clueOf(3, 0, 0, 8)))
	checkInt(t, "BestClue", got, ok, 1)
}

func TestDropClue(t *testing.T) {
	for _, p := range samplePuzzles() {
		count := len(p.Clues)
		for k := range count {
			got, ok := impl.DropClue(p, k)
			checkPuzzle(t, "DropClue "+showPuzzle(p), got, ok, plainWithout(p, k))
		}
		for _, k := range append(noNumbers(), count, count+1, 6, 7) {
			got, ok := impl.DropClue(p, k)
			checkNoPuzzle(t, "DropClue "+showPuzzle(p)+showList([]int{k}), got, ok)
		}
	}
	for _, k := range []int{-1, 0, 1, 5} {
		got, ok := impl.DropClue(puzzleOf(4), k)
		checkNoPuzzle(t, "DropClue of none"+showList([]int{k}), got, ok)
	}
	got, ok := impl.DropClue(puzzleOf(4, clueOf(1, 0, 0, 4)), 0)
	checkPuzzle(t, "DropClue of one", got, ok, puzzleOf(4))
}

func TestAddClue(t *testing.T) {
	for _, p := range samplePuzzles() {
		for _, c := range chosenClues(p.Soldiers) {
			got, ok := impl.AddClue(p, c)
			if len(p.Clues) == 6 {
				checkNoPuzzle(t, "AddClue to all "+showPuzzle(p), got, ok)
				continue
			}
			checkPuzzle(t, "AddClue "+showPuzzle(p), got, ok, puzzleOf(p.Soldiers, append(slices.Clone(p.Clues), c)...))
		}
	}
	for soldiers := 1; soldiers <= 8; soldiers++ {
		for _, c := range noCluesOf(soldiers) {
			for _, count := range []int{0, 1, 5, 6} {
				got, ok := impl.AddClue(puzzleOf(soldiers, someOf(chosenClues(soldiers), 0, 1, count)...), c)
				checkNoPuzzle(t, "AddClue "+showClue(c), got, ok)
			}
		}
	}
	for _, p := range noPuzzles() {
		got, ok := impl.AddClue(p, clueOf(2, 0, 0, 0))
		checkNoPuzzle(t, "AddClue "+showPuzzle(p), got, ok)
	}
	// A clue of longer rows only.
	got, ok := impl.AddClue(puzzleOf(3), clueOf(0, 3, 0, 0))
	checkNoPuzzle(t, "AddClue", got, ok)
	got, ok = impl.AddClue(puzzleOf(4), clueOf(0, 3, 0, 0))
	checkPuzzle(t, "AddClue", got, ok, puzzleOf(4, clueOf(0, 3, 0, 0)))
}

// A clue that is added is needless just if as many rows fit with it as before.
func TestAddedClues(t *testing.T) {
	for _, p := range samplePuzzles() {
		if len(p.Clues) != 3 || p.Soldiers > 6 {
			continue
		}
		for _, c := range chosenClues(p.Soldiers) {
			more, ok := impl.AddClue(p, c)
			if !ok {
				t.Error("AddClue", showPuzzle(p), showClue(c))
			}
			left, ok := impl.LeftByClues(more)
			needless, _ := impl.NeedlessClues(more)
			if !ok || slices.Contains(needless, 3) != (left[3] == left[4]) {
				t.Error("needless", showPuzzle(more), needless, left)
			}
			less, ok := impl.DropClue(more, 3)
			checkPuzzle(t, "dropped again", less, ok, p)
		}
	}
}

// plainPuzzle makes a puzzle as MakePuzzle is told to.
func plainPuzzle(row string, clues, seed int) impl.Puzzle {
	numbers := []int{seed}
	for k := range 2 * clues {
		numbers = append(numbers, (numbers[k]*223+2161)%10007)
	}
	p := puzzleOf(len(row))
	for k := range clues {
		kind, y := numbers[2*k+1]%5, numbers[2*k+2]
		a, b := 0, 0
		if kind == 0 || kind == 4 {
			a = y % len(row)
		}
		if kind == 0 {
			b = y / 11 % 4
		}
		p.Clues = append(p.Clues, clueOf(kind, a, b, plainTold(row, kind, a, b)))
	}
	return p
}

// Promise 9: puzzles that are made fit their row.
func TestMakePuzzle(t *testing.T) {
	for _, row := range shortRows(8) {
		for _, seed := range []int{0, 1, 2, 500, 4999, 7, 77, 9998, 9999} {
			checkMade(t, row, 6, seed)
		}
		checkMade(t, row, len(row)%7, len(row)*311)
	}
	for seed := range 10000 {
		row := plainRows(seed%8 + 1)[seed%(2<<(seed%8))]
		checkMade(t, row, seed/8%6+1, seed)
	}
}

func checkMade(t *testing.T, row string, clues, seed int) {
	t.Helper()
	what := "MakePuzzle " + row + showList([]int{clues, seed})
	want := plainPuzzle(row, clues, seed)
	p, ok := impl.MakePuzzle(row, clues, seed)
	checkPuzzle(t, what, p, ok, want)
	if !impl.IsPuzzle(p) {
		t.Error(what, "is no puzzle", showPuzzle(p))
	}
	for _, c := range p.Clues {
		fits, ok := impl.DoesFit(c, row)
		checkBool(t, what+" "+showClue(c), fits, ok, true)
	}
}

func TestKnownMadePuzzles(t *testing.T) {
	// From the seed 0 the numbers are 2161, 3728, 2924, 3758, 9614, 4585, 3902, 1698, 549, 4504, 5853 and 6470, from 9999 on 377, 6176, 8450, 5195, 9841, 5171, 4489, 2508, 1053, 6819, 1734 and 8577.
	known := []struct {
		row         string
		clues, seed int
		text        string
	}{
		{"><<", 0, 0, "3:"}, {">", 0, 9999, "1:"}, {"><<", 1, 0, "3:1.0.0.1"}, {"><<", 2, 0, "3:1.0.0.1,4.2.0.1"}, {">><", 2, 0, "3:1.0.0.2,4.2.0.1"},
		{">><<", 6, 0, "4:1.0.0.2,4.2.0.3,4.1.0.3,2.0.0.3,4.0.0.1,3.0.0.1"},
		{"<", 6, 0, "1:1.0.0.0,4.0.0.0,4.0.0.0,2.0.0.0,4.0.0.0,3.0.0.0"}, {">", 4, 0, "1:1.0.0.1,4.0.0.0,4.0.0.0,2.0.0.0"},
		{">><<><><", 6, 9999, "8:2.0.0.5,0.3.0.0,1.0.0.4,4.4.0.4,3.0.0.3,4.1.0.3"}, {"><>>><<<", 6, 9999, "8:2.0.0.6,0.3.0.1,1.0.0.4,4.4.0.6,3.0.0.2,4.1.0.2"},
		{">>>><", 1, 3, "5:0.0.3.1"}, {">>><<", 1, 3, "5:0.0.3.0"},
		{"><<", 6, 9999, "3:2.0.0.2,0.2.0.0,1.0.0.1,4.0.0.1,3.0.0.1,4.0.0.1"}, {">><<>", 6, 4242, "5:4.1.0.3,2.0.0.3,1.0.0.3,4.0.0.1,2.0.0.3,0.2.0.0"},
	}
	for _, k := range known {
		p, ok := impl.MakePuzzle(k.row, k.clues, k.seed)
		if !ok || showPuzzle(p) != k.text {
			t.Error("MakePuzzle", k.row, k.clues, k.seed, showPuzzle(p), ok)
		}
	}
}

func TestPuzzlesThatAreNotMade(t *testing.T) {
	for _, row := range []string{"<", ">", "><<", "><><><><"} {
		for _, wrong := range append(noNumbers(), 7, 8, 10000) {
			p, ok := impl.MakePuzzle(row, wrong, 5)
			checkNoPuzzle(t, "MakePuzzle of too many"+showList([]int{wrong}), p, ok)
		}
		for _, wrong := range append(noNumbers(), 10000, 10001, 10006, 10007) {
			if wrong >= 0 && wrong <= 9999 {
				continue
			}
			for _, clues := range []int{0, 1, 6} {
				p, ok := impl.MakePuzzle(row, clues, wrong)
				checkNoPuzzle(t, "MakePuzzle with the seed"+showList([]int{wrong}), p, ok)
			}
		}
		for _, clues := range []int{0, 6} {
			for _, seed := range []int{0, 9999} {
				checkMade(t, row, clues, seed)
			}
		}
	}
	for _, text := range noHiddenRows() {
		for _, clues := range []int{0, 1, 6} {
			p, ok := impl.MakePuzzle(text, clues, 5)
			checkNoPuzzle(t, "MakePuzzle of "+strconv.Quote(text[:min(len(text), 20)]), p, ok)
		}
	}
}

func TestPuzzleTexts(t *testing.T) {
	for _, p := range slices.Concat(samplePuzzles(), smallPuzzles()) {
		text, ok := impl.PuzzleText(p)
		checkText(t, "PuzzleText", text, ok, showPuzzle(p))
		back, ok := impl.ParsePuzzle(text)
		checkPuzzle(t, "ParsePuzzle "+text, back, ok, p)
	}
	for soldiers := 1; soldiers <= 8; soldiers++ {
		for _, c := range allClues(soldiers) {
			p := puzzleOf(soldiers, c, clueOf(1, 0, 0, soldiers))
			back, ok := impl.ParsePuzzle(showPuzzle(p))
			checkPuzzle(t, "ParsePuzzle "+showPuzzle(p), back, ok, p)
		}
		for _, c := range noCluesOf(soldiers) {
			for _, p := range []impl.Puzzle{puzzleOf(soldiers, c), puzzleOf(soldiers, clueOf(1, 0, 0, 1), c), puzzleOf(soldiers, c, clueOf(1, 0, 0, 1))} {
				back, ok := impl.ParsePuzzle(showPuzzle(p))
				checkNoPuzzle(t, "ParsePuzzle "+showPuzzle(p), back, ok)
			}
		}
	}
	for _, p := range noPuzzles() {
		text, ok := impl.PuzzleText(p)
		checkNoText(t, "PuzzleText "+showPuzzle(p), text, ok)
		back, ok := impl.ParsePuzzle(showPuzzle(p))
		checkNoPuzzle(t, "ParsePuzzle "+showPuzzle(p), back, ok)
	}
}

// noPuzzleTexts returns texts that are no PuzzleTexts.
func noPuzzleTexts() []string {
	texts := []string{
		"", " ", ":", "::", ",", ".", "3", "3.", "3,", ":3", "0:", "9:", "10:", "-1:", "+3:", "-0:", "03:", "003:", "3::", ":3:", "3:3", "3:3:", "3: ", " 3:", "3 :", "3:\n", "\n3:", "3:\x00", "\x003:", "3:,", "3:.", "3:...", "3:,,", "3.0:", "3e0:", "0x3:", "1_:", "x:", "three:", "3;", "3；",
		"3:1", "3:1.0", "3:1.0.0", "3:1.0.0.", "3:.1.0.0.1", "3:1.0.0.1.", "3:1.0.0.1.0", "3:1.0.0.1.1", "3:1..0.1", "3:1.0..1", "3:1...1", "3:.0.0.1", "3:1.0.01", "3:1,0,0,1", "3:1.0.0,1", "3:1.0.0.1,", "3:,1.0.0.1", "3:1.0.0.1,,2.0.0.2", "3:1.0.0.1,2.0.0", "3:1.0.0.1,2", "3:1.0.0.1.2.0.0.2", "3:1.0.0.1;2.0.0.2", "3:1.0.0.1:2.0.0.2", "3:1.0.0.1 2.0.0.2", "1.0.0.1", ":1.0.0.1", "3,1.0.0.1", "3.1.0.0.1", "31.0.0.1", "3:3:1.0.0.1", "3:1.0.0.1:", "3:1.0.0.1/2.0.0.2", "3:1-0-0-1",
		"3:01.0.0.1", "3:1.00.0.1", "3:1.0.00.1", "3:1.0.0.01", "3:1.0.0.001", "3:1.0.0.1,2.0.0.02", "3:+1.0.0.1", "3:1.+0.0.1", "3:1.0.+0.1", "3:1.0.0.+1", "3:-1.0.0.1", "3:1.-0.0.1", "3:1.0.-0.1", "3:1.0.0.-1", "3:-0.0.0.1", "3:0.0.0.-0", "3:1.0.0.--1",
		"3: 1.0.0.1", "3:1 .0.0.1", "3:1. 0.0.1", "3:1.0.0. 1", "3:1.0.0.1 ", "3:1.0.0.1, 2.0.0.2", "3:1.0.0.1 ,2.0.0.2", "3:1.0.0.1\n", "3:1.0.0.1\r\n", "3:1.0.0.1\t", "3:1.0.0.1\x00", "3\x00:1.0.0.1", "3:1.0.0.x", "3:x.0.0.1", "3:a.b.c.d", "3:1.0.0.1e0", "3:1.0.0.0x1", "3:1.0.0.1_0", "3:2.0.0.1_0",
		"0:1.0.0.1", "9:1.0.0.1", "-3:1.0.0.1", "03:1.0.0.1", "3:5.0.0.0", "3:5.0.0.1", "3:-1.0.0.0", "3:0.3.0.0", "3:0.0.21.0", "3:0.0.0.2", "3:0.-1.0.0", "3:1.0.0.4", "3:1.1.0.1", "3:1.0.1.1", "3:2.0.0.21", "3:2.1.0.2", "3:2.0.1.2", "3:3.0.0.9", "3:3.1.0.1", "3:3.0.1.1", "3:4.3.0.1", "3:4.0.0.21", "3:4.0.1.1", "3:1.0.0.1,2.0.0.21", "3:2.0.0.21,1.0.0.1", "2:1.0.0.3", "1:0.1.0.0", "8:0.8.0.0", "8:1.0.0.9",
		"3:1.0.0.1\xff", "\xff3:1.0.0.1", "3:\xff", "３:", "3：", "3:１.0.0.1", "3:1．0．0．1", "3:1.0.0.1，2.0.0.2", "٣:", "3:1.0.0.١", "é", "é:", "3:é", "3:1.0.0.é", "3:1.0.0.1\u00a0", "\xef\xbb\xbf3:", "3:½", "3:1.0.0.²",
		"3:" + strings.Repeat("1.0.0.1,", 6) + "1.0.0.1", "3:" + strings.Repeat("1.0.0.1,", 6), "3:" + strings.Repeat("1.0.0.1,", 5), "3:" + strings.Repeat("1.0.0.1,", 7), "3:" + strings.Repeat("1.0.0.1,", 10000) + "1.0.0.1",
		strings.Repeat(":", 100000), "3:" + strings.Repeat(",", 100000), "3:" + strings.Repeat(".", 100000), strings.Repeat("3", 100000) + ":", strings.Repeat("0", 100000) + "3:", "3:1.0.0." + strings.Repeat("0", 100000) + "1", "3:1.0.0." + strings.Repeat("1", 100000), "3:" + strings.Repeat("1.", 100000) + "1",
	}
	for _, number := range []string{"9223372036854775807", "9223372036854775808", "-9223372036854775808", "-9223372036854775809", "18446744073709551615", "18446744073709551616", "18446744073709551617", "4294967296", "4294967297", "100000000000000000000000000000000000001"} {
		texts = append(texts, number+":", number+":1.0.0.1", "3:"+number+".0.0.1", "3:1."+number+".0.1", "3:1.0."+number+".1", "3:1.0.0."+number, "3:1.0.0.1,2.0.0."+number, "3:0."+number+".0.1", "3:0.0."+number+".1")
	}
	return texts
}

func checkNoPuzzleText(t *testing.T, text string) {
	t.Helper()
	p, ok := impl.ParsePuzzle(text)
	checkNoPuzzle(t, "ParsePuzzle "+strconv.Quote(text[:min(len(text), 50)]), p, ok)
}

func TestTextsThatAreNoPuzzles(t *testing.T) {
	for _, text := range noPuzzleTexts() {
		checkNoPuzzleText(t, text)
	}
	for soldiers := range 12 {
		text := strconv.Itoa(soldiers) + ":"
		p, ok := impl.ParsePuzzle(text)
		if soldiers < 1 || soldiers > 8 {
			checkNoPuzzle(t, text, p, ok)
		} else {
			checkPuzzle(t, text, p, ok, puzzleOf(soldiers))
		}
	}
	p, ok := impl.ParsePuzzle("8:" + strings.Repeat("4.7.0.20,", 5) + "4.7.0.20")
	checkPuzzle(t, "the longest text", p, ok, puzzleOf(8, slices.Repeat([]impl.Clue{clueOf(4, 7, 0, 20)}, 6)...))
}

var puzzleForm = regexp.MustCompile(`^[1-8]:((0|[1-9][0-9]?)(\.(0|[1-9][0-9]?)){3}(,(0|[1-9][0-9]?)(\.(0|[1-9][0-9]?)){3}){0,5})?$`)
var numberForm = regexp.MustCompile(`[0-9]+`)

// puzzleOfText tells by their form which texts are PuzzleTexts.
func puzzleOfText(text string) (impl.Puzzle, bool) {
	if !puzzleForm.MatchString(text) {
		return impl.Puzzle{}, false
	}
	p := puzzleOf(int(text[0] - '0'))
	numbers := numberForm.FindAllString(text[2:], -1)
	for k := 0; k < len(numbers); k += 4 {
		var four [4]int
		for j := range four {
			four[j], _ = strconv.Atoi(numbers[k+j])
		}
		p.Clues = append(p.Clues, clueOf(four[0], four[1], four[2], four[3]))
	}
	all := allClues(p.Soldiers)
	return p, !slices.ContainsFunc(p.Clues, func(c impl.Clue) bool { return !slices.Contains(all, c) })
}

func TestTextsNextToPuzzles(t *testing.T) {
	for _, good := range []string{"3:", "3:1.0.0.1,2.0.0.2", "8:0.7.20.1", "5:4.1.0.20,3.0.0.8", "1:0.0.0.0,0.0.0.0,0.0.0.0,0.0.0.0,0.0.0.0,0.0.0.0"} {
		// One byte more at any place, another one, or one less.
		for at := range len(good) + 1 {
			rest := good[min(at+1, len(good)):]
			texts := []string{good[:at] + rest, good[:at] + good[at:] + good[at:], good[at:] + good[:at]}
			for code := range 256 {
				sign := string([]byte{byte(code)})
				texts = append(texts, good[:at]+sign+good[at:], good[:at]+sign+rest)
			}
			for _, text := range texts {
				want, isOne := puzzleOfText(text)
				if !isOne {
					checkNoPuzzleText(t, text)
					continue
				}
				p, ok := impl.ParsePuzzle(text)
				checkPuzzle(t, "ParsePuzzle "+text, p, ok, want)
			}
		}
	}
	for length := range 6 {
		for _, text := range textsOf("0138.:,", length) {
			want, isOne := puzzleOfText(text)
			p, ok := impl.ParsePuzzle(text)
			if isOne {
				checkPuzzle(t, "ParsePuzzle "+text, p, ok, want)
			} else {
				checkNoPuzzle(t, "ParsePuzzle "+text, p, ok)
			}
		}
	}
}

// answersOfPuzzle calls every function of a puzzle, and tells by name which of them succeed and which return more than zero values.
func answersOfPuzzle(p impl.Puzzle) (succeed, nonzero []string) {
	note := func(name string, isZero bool, ok bool) {
		if ok {
			succeed = append(succeed, name)
		}
		if !isZero {
			nonzero = append(nonzero, name)
		}
	}
	isZero := func(p impl.Puzzle) bool { return p.Soldiers == 0 && len(p.Clues) == 0 }
	if impl.IsPuzzle(p) {
		note("IsPuzzle", false, true)
	}
	rows, ok := impl.Solutions(p)
	note("Solutions", len(rows) == 0, ok)
	n, ok := impl.CountSolutions(p)
	note("CountSolutions", n == 0, ok)
	text, ok := impl.FirstSolution(p)
	note("FirstSolution", text == "", ok)
	text, ok = impl.SureSigns(p)
	note("SureSigns", text == "", ok)
	is, ok := impl.IsSolved(p)
	note("IsSolved", !is, ok)
	list, ok := impl.NeedlessClues(p)
	note("NeedlessClues", len(list) == 0, ok)
	q, ok := impl.DropClue(p, 0)
	note("DropClue", isZero(q), ok)
	q, ok = impl.AddClue(p, clueOf(2, 0, 0, 1))
	note("AddClue", isZero(q), ok)
	list, ok = impl.LeftByClues(p)
	note("LeftByClues", len(list) == 0, ok)
	n, ok = impl.BestClue(p)
	note("BestClue", n == 0, ok)
	q, ok = impl.HarderPuzzle(p)
	note("HarderPuzzle", isZero(q), ok)
	text, ok = impl.PuzzleText(p)
	note("PuzzleText", text == "", ok)
	return succeed, nonzero
}

// Promise 11: puzzles that are none make every function of them fail, with zero values.
func TestPuzzlesThatAreNone(t *testing.T) {
	for _, p := range noPuzzles() {
		if succeed, nonzero := answersOfPuzzle(p); len(succeed)+len(nonzero) > 0 {
			t.Error(showPuzzle(p), succeed, nonzero)
		}
		for _, k := range []int{-1, 0, 1, len(p.Clues) - 1, len(p.Clues)} {
			got, ok := impl.DropClue(p, k)
			checkNoPuzzle(t, "DropClue "+showPuzzle(p), got, ok)
		}
	}
	if succeed, _ := answersOfPuzzle(puzzleOf(3, clueOf(1, 0, 0, 1), clueOf(2, 0, 0, 2))); len(succeed) != 13 {
		t.Error("a solved puzzle", succeed)
	}
	if succeed, _ := answersOfPuzzle(puzzleOf(3, clueOf(1, 0, 0, 1))); len(succeed) != 12 || slices.Contains(succeed, "HarderPuzzle") {
		t.Error("a puzzle that is not solved", succeed)
	}
	if succeed, _ := answersOfPuzzle(puzzleOf(3)); len(succeed) != 10 {
		t.Error("a puzzle with no clue", succeed)
	}
}

// Promise 11: arguments are not modified, nor is what lies behind their length, nor does that matter.
func TestPuzzlesAreNotModified(t *testing.T) {
	wrong := clueOf(-7, 99, 99, 99)
	for _, p := range samplePuzzles() {
		if p.Soldiers > 5 {
			continue
		}
		room := append(slices.Clone(p.Clues), wrong, wrong, wrong)
		want := slices.Clone(room)
		inRoom := impl.Puzzle{Soldiers: p.Soldiers, Clues: room[:len(p.Clues)]}
		for range 2 {
			checkSolutions(t, inRoom)
			answersOfPuzzle(inRoom)
			for k := range p.Clues {
				impl.DropClue(inRoom, k)
			}
		}
		if !slices.Equal(room, want) {
			t.Error("modified", showPuzzle(p), room)
		}
	}
	// Not with the clues that are there only behind the length.
	six := someOf(chosenClues(4), 0, 3, 6)
	p, ok := impl.AddClue(puzzleOf(4, six[:2]...), clueOf(1, 0, 0, 3))
	checkPuzzle(t, "AddClue", p, ok, puzzleOf(4, six[0], six[1], clueOf(1, 0, 0, 3)))
	checkList(t, "the argument", six, true, someOf(chosenClues(4), 0, 3, 6))
}

// puzzlesMadeOf returns the results that are puzzles, for a solved puzzle of three clues.
func puzzlesMadeOf(p impl.Puzzle) []impl.Puzzle {
	var results []impl.Puzzle
	for k := range 3 {
		q, _ := impl.DropClue(p, k)
		results = append(results, q)
	}
	q, _ := impl.AddClue(p, clueOf(3, 0, 0, 1))
	harder, _ := impl.HarderPuzzle(p)
	again, _ := impl.HarderPuzzle(harder)
	made, _ := impl.MakePuzzle("><<", 4, 3)
	parsed, _ := impl.ParsePuzzle("3:1.0.0.1,2.0.0.2")
	return append(results, q, harder, again, made, parsed)
}

// Promise 11: results are new memory.
func TestPuzzleResultsAreNew(t *testing.T) {
	solved := []impl.Puzzle{
		puzzleOf(3, clueOf(3, 0, 0, 1), clueOf(1, 0, 0, 1), clueOf(2, 0, 0, 2)), puzzleOf(3, clueOf(1, 0, 0, 1), clueOf(2, 0, 0, 2), clueOf(3, 0, 0, 1)),
		// No clue of this one can be spared.
		puzzleOf(3, clueOf(0, 0, 0, 1), clueOf(0, 1, 0, 0), clueOf(0, 2, 0, 1)),
	}
	for _, p := range solved {
		argument := clonePuzzle(p)
		var want []impl.Puzzle
		results := puzzlesMadeOf(argument)
		for _, q := range results {
			want = append(want, clonePuzzle(q))
		}
		for k, q := range results {
			// What is put into one result, or behind it, comes into no other one and into no argument.
			full := q.Clues[:cap(q.Clues)]
			for j := range full {
				full[j] = clueOf(-9, -9, -9, -9)
			}
			for j := k + 1; j < len(results); j++ {
				checkPuzzle(t, "another result", results[j], true, want[j])
			}
			checkPuzzle(t, "the argument", argument, true, p)
		}
		for k, q := range puzzlesMadeOf(argument) {
			checkPuzzle(t, "again", q, true, want[k])
		}
	}
}

func TestListsOfPuzzlesAreNew(t *testing.T) {
	p := puzzleOf(3, clueOf(3, 0, 0, 1), clueOf(1, 0, 0, 1))
	lists := func() [][]int {
		a, _ := impl.LeftByClues(p)
		b, _ := impl.NeedlessClues(puzzleOf(3, p.Clues[0], p.Clues[0]))
		return [][]int{a, b}
	}
	want := [][]int{{8, 4, 2}, {0, 1}}
	for range 2 {
		got := lists()
		checkPairs(t, "lists", got, true, want)
		for _, list := range got {
			clear(list[:cap(list)])
		}
		rows, ok := impl.Solutions(p)
		checkList(t, "Solutions", rows, ok, []string{"<><", "><<"})
		clear(rows[:cap(rows)])
	}
}

// Promise 11: numbers and texts of whatever size are accepted, in all orders.
func TestPuzzleArgumentsOfAllSizes(t *testing.T) {
	numbers := []int{math.MinInt, math.MinInt + 1, -1 << 32, -1, 0, 1, 2, 4, 5, 8, 9, 20, 21, 9999, 10000, 1 << 32, 1 << 62, math.MaxInt - 1, math.MaxInt}
	for _, n := range numbers {
		for _, m := range numbers {
			for _, row := range []string{"", "<", "><<", "><><><><", "><><><><>", "x"} {
				impl.MakePuzzle(row, n, m)
				impl.DoesFit(clueOf(n, m, n, m), row)
				impl.DoesFit(clueOf(0, n, m, 1), row)
				impl.DoesFit(clueOf(4, n, 0, m), row)
			}
			for _, c := range []impl.Clue{clueOf(n, m, 0, 0), clueOf(0, n, m, 1), clueOf(1, 0, m, n), clueOf(4, m, 0, n), clueOf(m, n, m, n)} {
				impl.IsClue(n, c)
				for _, soldiers := range []int{n, m, 2} {
					p := puzzleOf(soldiers, c)
					answersOfPuzzle(p)
					impl.DropClue(p, m)
					impl.AddClue(p, c)
					impl.AddClue(puzzleOf(soldiers), c)
				}
			}
		}
	}
	for _, text := range slices.Concat(noSignalTexts(), noPacesTexts(), noFilesTexts(), noWords(), noFacings(), noHiddenRows()) {
		checkNoPuzzleText(t, text)
	}
}
