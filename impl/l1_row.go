package impl

import "slices"

const MaxRow = 60
const MaxTraced = 12

const maxRowTicks = 1000000
const maxTicksCounted = 1000

// soldier looks to the right, or else to the left.
type soldier struct{ right bool }

// placed is a soldier who stands in a row, and how often this one has turned there.
type placed struct {
	soldier
	turns int
}

// troop is a row whose soldiers can turn.
type troop []placed

// faces reports whether s and t, who stands next on the right of s, look at each other.
func (s soldier) faces(t soldier) bool {
	return s == soldier{right: true} && t == soldier{right: false}
}

func (p *placed) turn() {
	p.right = !p.right
	p.turns++
}

func (t troop) pairs() []int {
	var lefts []int
	for k := range len(t) - 1 {
		if t[k].faces(t[k+1].soldier) {
			lefts = append(lefts, k)
		}
	}
	return lefts
}

// tick turns all pairs who face each other, and reports whether there is one.
func (t troop) tick() bool {
	// All turn at once, so the pairs are found before anyone turns.
	lefts := t.pairs()
	for _, k := range lefts {
		t[k].turn()
		t[k+1].turn()
	}
	return len(lefts) > 0
}

// settle ticks until rest, and returns how many ticks that took.
func (t troop) settle() int {
	ticks := 0
	for t.tick() {
		ticks++
	}
	return ticks
}

func (t troop) isAtRest() bool { return len(t.pairs()) == 0 }

func (t troop) text() string {
	signs := make([]byte, len(t))
	for k, p := range t {
		signs[k] = '<'
		if p.right {
			signs[k] = '>'
		}
	}
	return string(signs)
}

func (t troop) ticked() string {
	t.tick()
	return t.text()
}

func (t troop) rested() string {
	t.settle()
	return t.text()
}

func (t troop) turnsUntilRest() []int {
	t.settle()
	turns := make([]int, len(t))
	for k, p := range t {
		turns[k] = p.turns
	}
	return turns
}

func (t troop) pairsUntilRest() int {
	sum := 0
	for _, turns := range t.turnsUntilRest() {
		sum += turns
	}
	// A pair that turns is counted by both of its soldiers.
	return sum / 2
}

func (t troop) turned() string {
	for k := range t {
		t[k].turn()
	}
	return t.text()
}

func (t troop) mirrored() string {
	slices.Reverse(t)
	return t.turned()
}

// number returns how many rows come before t: as `<` comes before `>`, rows are ordered like numbers with two digits.
func (t troop) number() int {
	number := 0
	for _, p := range t {
		number *= 2
		if p.right {
			number++
		}
	}
	return number
}

func (t troop) before() []string {
	var rows []string
	want := t.number()
	for number := range countRows(len(t)) {
		b := troopOf(len(t), number)
		b.tick()
		if b.number() == want {
			rows = append(rows, troopOf(len(t), number).text())
		}
	}
	return rows
}

func (t troop) hasBefore() bool { return len(t.before()) > 0 }

func countRows(soldiers int) int { return 1 << soldiers }

// troopOf returns the row of so many soldiers before which number others come.
func troopOf(soldiers int, number int) troop {
	t := make(troop, soldiers)
	for k := soldiers - 1; k >= 0; k-- {
		t[k].right = number%2 == 1
		number /= 2
	}
	return t
}

// told returns what a method of troops tells of a row, and fails if the text is none.
func told[T any](row string, method func(troop) T) (T, bool) {
	if !IsRow(row) {
		var none T
		return none, false
	}
	t := make(troop, len(row))
	for k := range t {
		t[k].right = row[k] == '>'
	}
	return method(t), true
}

// ticksOfAll returns TicksToRest of all rows of so many soldiers, in the order of texts.
func ticksOfAll(soldiers int) ([]int, bool) {
	if soldiers < 1 || soldiers > MaxTraced {
		return nil, false
	}
	ticks := make([]int, countRows(soldiers))
	for number := range ticks {
		ticks[number] = troopOf(soldiers, number).settle()
	}
	return ticks, true
}

// IsRow reports whether a text is a row.
func IsRow(row string) bool {
	if len(row) < 1 || len(row) > MaxRow {
		return false
	}
	for k := range len(row) {
		if row[k] != '<' && row[k] != '>' {
			return false
		}
	}
	return true
}

// FacingPairs returns the left ones of all pairs who face each other, increasing.
func FacingPairs(row string) ([]int, bool) { return told(row, troop.pairs) }

// TickRow returns the row behind a tick.
func TickRow(row string) (string, bool) { return told(row, troop.ticked) }

// RowAfter returns the row behind so many ticks, in 0..1000000.
func RowAfter(row string, ticks int) (string, bool) {
	if ticks < 0 || ticks > maxRowTicks {
		return "", false
	}
	return told(row, func(t troop) string {
		for range ticks {
			// Once at rest, a row stays as it is.
			if !t.tick() {
				break
			}
		}
		return t.text()
	})
}

// TicksToRest returns the least number of ticks behind which a row is at rest.
func TicksToRest(row string) (int, bool) { return told(row, troop.settle) }

// RestOf returns the row that is at rest behind TicksToRest ticks.
func RestOf(row string) (string, bool) { return told(row, troop.rested) }

// IsAtRest reports whether a row is at rest.
func IsAtRest(row string) (bool, bool) { return told(row, troop.isAtRest) }

// CountTurns returns how many pairs turn until rest, in all ticks together.
func CountTurns(row string) (int, bool) { return told(row, troop.pairsUntilRest) }

// TurnsOfEach returns how often each soldier turns until rest.
func TurnsOfEach(row string) ([]int, bool) { return told(row, troop.turnsUntilRest) }

// MirrorRow returns the row as it is seen from behind: told from the last soldier on, each looking to the other side.
func MirrorRow(row string) (string, bool) { return told(row, troop.mirrored) }

// TurnedRow returns the row in which each soldier looks to the other side.
func TurnedRow(row string) (string, bool) { return told(row, troop.turned) }

// RowsBefore returns all rows from which a tick leads to a row of at most MaxTraced soldiers, in the order of texts.
func RowsBefore(row string) ([]string, bool) {
	if len(row) > MaxTraced {
		return nil, false
	}
	return told(row, troop.before)
}

// HasBefore reports whether there is a row from which a tick leads to a row of at most MaxTraced soldiers.
func HasBefore(row string) (bool, bool) {
	if len(row) > MaxTraced {
		return false, false
	}
	return told(row, troop.hasBefore)
}

// LongestTicks returns the greatest TicksToRest of a row of so many soldiers, 1..MaxTraced.
func LongestTicks(soldiers int) (int, bool) {
	ticks, ok := ticksOfAll(soldiers)
	if !ok {
		return 0, false
	}
	return slices.Max(ticks), true
}

// FirstLongest returns the first row as a text that has LongestTicks ticks to rest, for as many soldiers.
func FirstLongest(soldiers int) (string, bool) {
	ticks, ok := ticksOfAll(soldiers)
	if !ok {
		return "", false
	}
	return RowOfNumber(soldiers, slices.Index(ticks, slices.Max(ticks)))
}

// CountByTicks returns how many rows of so many soldiers, 1..MaxTraced, have just so many TicksToRest, in 0..1000.
func CountByTicks(soldiers int, ticks int) (int, bool) {
	all, ok := ticksOfAll(soldiers)
	if !ok || ticks < 0 || ticks > maxTicksCounted {
		return 0, false
	}
	count := 0
	for _, each := range all {
		if each == ticks {
			count++
		}
	}
	return count, true
}

// CountAtRest returns how many rows of so many soldiers, 1..MaxRow, are at rest: one more than there are soldiers.
func CountAtRest(soldiers int) (int, bool) {
	if soldiers < 1 || soldiers > MaxRow {
		return 0, false
	}
	return soldiers + 1, true
}

// SumOfTicks returns the sum of TicksToRest of all rows of so many soldiers, 1..MaxTraced.
func SumOfTicks(soldiers int) (int, bool) {
	all, ok := ticksOfAll(soldiers)
	sum := 0
	for _, each := range all {
		sum += each
	}
	return sum, ok
}

// NumberOfRow returns how many rows of as many soldiers come before a row as texts.
func NumberOfRow(row string) (int, bool) { return told(row, troop.number) }

// RowOfNumber returns the row of so many soldiers, 1..MaxRow, before which just so many others come.
func RowOfNumber(soldiers int, number int) (string, bool) {
	if soldiers < 1 || soldiers > MaxRow || number < 0 || number >= countRows(soldiers) {
		return "", false
	}
	return troopOf(soldiers, number).text(), true
}
