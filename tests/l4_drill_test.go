package tests

import (
	"math"
	"math/big"
	"slices"
	"strconv"
	"strings"
	"testing"

	"loop.example/g01332/impl"
)

// plainTurn tells in which way one who faces a way faces behind a command.
func plainTurn(way int, sign byte) int {
	switch sign {
	case 'L':
		return []int{3, 0, 1, 2}[way]
	case 'R':
		return []int{1, 2, 3, 0}[way]
	case 'A':
		return []int{2, 3, 0, 1}[way]
	}
	return way
}

// plainFacing lets each soldier do a word of their own, command by command.
func plainFacing(facing string, words []string) string {
	behind := ""
	for k, word := range words {
		way := int(facing[k] - '0')
		for i := range len(word) {
			way = plainTurn(way, word[i])
		}
		behind += strconv.Itoa(way)
	}
	return behind
}

// plainDone lets all do a word, with mistakes.
func plainDone(facing, word string, mistakes []impl.Mistake) string {
	words := slices.Repeat([]string{word}, len(facing))
	for _, m := range mistakes {
		words[m.Soldier] = words[m.Soldier][:m.At] + m.Did + words[m.Soldier][m.At+1:]
	}
	return plainFacing(facing, words)
}

// wordTurn returns the turn of a word, told by one who faces 0 at first.
func wordTurn(word string) int {
	return int(plainFacing("0", []string{word})[0] - '0')
}

// textsOf returns all texts of so many of some signs.
func textsOf(signs string, length int) []string {
	texts := []string{""}
	for range length {
		var longer []string
		for _, text := range texts {
			for k := range len(signs) {
				longer = append(longer, text+signs[k:k+1])
			}
		}
		texts = longer
	}
	return texts
}

// shortWords returns all words of at most so many commands.
func shortWords(most int) []string {
	var words []string
	for length := range most + 1 {
		words = append(words, textsOf("LRAS", length)...)
	}
	return words
}

// longWords returns words of MaxCommands signs and of some less, of each turn.
func longWords() []string {
	words := []string{strings.Repeat("LRASSALARLRSLLLARRSA", 3)[:47]}
	for _, sign := range []string{"L", "R", "A", "S"} {
		for last := range 5 {
			words = append(words, strings.Repeat(sign, 60-last)+strings.Repeat("L", last), strings.Repeat(sign, 59))
		}
	}
	return append(words, strings.Repeat("LR", 30), strings.Repeat("LLR", 20), strings.Repeat("LRAS", 15), "R"+strings.Repeat("SAL", 19)+"LA")
}

// noWords returns texts that are no words.
func noWords() []string {
	texts := []string{
		"l", "r", "a", "s", "X", " ", "L ", " L", "L R", "L,R", "LR\n", "\x00", "L\x00", "0", "LR1", "B", "K", "M", "Q", "T",
		"\xff", "L\xffR", "\xcc", "Ō", "Ŕ", "Ł", "œ", "ＬＲ", "Lé", "é", "LR\u212b", "\xef\xbf\xbd", "LRAS?", "-", "<",
		strings.Repeat("L", 61), strings.Repeat("S", 61), strings.Repeat("LR", 31), strings.Repeat("A", 100000),
		strings.Repeat("L", 59) + "x", "x" + strings.Repeat("L", 59), strings.Repeat("Ō", 30),
	}
	// These are no ASCII, but end with the byte of a command.
	for _, sign := range "LRAS" {
		texts = append(texts, string(sign+0x100), string(sign+0x4e00), string(sign+0x10000), "S"+string(sign+0x100))
	}
	return texts
}

// sampleFacings returns all short facings, and some of the longest ones.
func sampleFacings() []string {
	var facings []string
	for soldiers := 1; soldiers <= 4; soldiers++ {
		facings = append(facings, textsOf("0123", soldiers)...)
	}
	return append(facings, longFacings()...)
}

func longFacings() []string {
	return []string{
		strings.Repeat("0", 30), strings.Repeat("3", 30), strings.Repeat("012", 10), strings.Repeat("32", 15), strings.Repeat("0123", 7) + "21",
		strings.Repeat("1", 29), strings.Repeat("01", 14) + "3", "2" + strings.Repeat("130", 9),
	}
}

// noFacings returns texts that are no facings.
func noFacings() []string {
	return []string{
		"", " ", "4", "9", "04", "40", "0 1", " 0", "0\n", "/", "01/", ":", "-1", "+1", "a", "L", "0L", "\x00", "\x01", "0\x03", "\xff", "0\xff", "\xb0",
		"é", "０", "٣", "0é1", "\u0130", "\u0231", "\xef\xbf\xbd", strings.Repeat("0", 31), strings.Repeat("3", 31), strings.Repeat("0123", 8), strings.Repeat("1", 100000),
		strings.Repeat("2", 29) + "4", "5" + strings.Repeat("2", 29),
	}
}

// sampleMistakes returns lists of 0..20 mistakes of so many soldiers with a word, as many as there can be, the first and the last places with them.
func sampleMistakes(soldiers int, word string) [][]impl.Mistake {
	lists := [][]impl.Mistake{nil}
	if word == "" {
		return lists
	}
	for _, many := range []int{1, 2, 3, 7, 20} {
		for start := range 3 {
			var list []impl.Mistake
			places := soldiers * len(word)
			for k := range min(many, places) {
				// They begin with the last place, the first one or the second one.
				place := (places - 1 + k*(places/min(many, places)) + start) % places
				at := place % len(word)
				others := strings.ReplaceAll("LRAS", word[at:at+1], "")
				list = append(list, impl.Mistake{Soldier: place / len(word), At: at, Did: others[(k+start)%3 : (k+start)%3+1]})
			}
			lists = append(lists, list)
		}
	}
	return lists
}

// drillOfMistakes is a facing, a word and mistakes.
type drillOfMistakes struct {
	facing, word string
	mistakes     []impl.Mistake
}

func (d drillOfMistakes) String() string {
	text := strconv.Quote(d.facing) + " " + strconv.Quote(d.word)
	for _, m := range d.mistakes {
		text += " " + strconv.Itoa(m.Soldier) + "." + strconv.Itoa(m.At) + "." + strconv.Quote(m.Did)
	}
	return text
}

func sampleDrills() []drillOfMistakes {
	var drills []drillOfMistakes
	facings := append(longFacings(), "0", "3", "00", "21", "0123")
	words := append(longWords(), "", "L", "S", "LR", "AAS", "LRASL")
	for _, facing := range facings {
		for _, word := range words {
			for _, list := range sampleMistakes(len(facing), word) {
				drills = append(drills, drillOfMistakes{facing, word, list})
			}
		}
	}
	return drills
}

// noMistakes returns lists that are no mistakes of two soldiers with the word `LR`.
func noMistakes() [][]impl.Mistake {
	good := impl.Mistake{Soldier: 0, At: 1, Did: "S"}
	wrong := []impl.Mistake{
		{Soldier: 1, At: 0, Did: "L"}, {Soldier: 1, At: 1, Did: "R"}, {Soldier: 0, At: 0, Did: "L"},
		{Soldier: 2, At: 0, Did: "R"}, {Soldier: -1, At: 0, Did: "R"}, {Soldier: 1, At: 2, Did: "S"}, {Soldier: 1, At: -1, Did: "S"},
	}
	for _, number := range []int{math.MinInt, math.MinInt + 1, -1 << 32, 1 << 32, 1 << 62, math.MaxInt - 1, math.MaxInt, 30, 60} {
		wrong = append(wrong, impl.Mistake{Soldier: number, At: 0, Did: "R"}, impl.Mistake{Soldier: 1, At: number, Did: "S"}, impl.Mistake{Soldier: number, At: number, Did: "A"})
	}
	for _, did := range []string{"", "r", "RR", "RA", "SS", "LL", "R ", " R", "X", "0", "\x00", "\xff", "R\x00", "Ŕ", "Ｒ", "\xef\xbf\xbd", strings.Repeat("R", 60), strings.Repeat("R", 61)} {
		wrong = append(wrong, impl.Mistake{Soldier: 1, At: 0, Did: did})
	}
	lists := [][]impl.Mistake{
		{good, good}, {good, {Soldier: 0, At: 1, Did: "A"}}, {good, {Soldier: 1, At: 1, Did: "A"}, {Soldier: 0, At: 1, Did: "L"}},
		{{Soldier: 1, At: 1, Did: "A"}, good, {Soldier: 1, At: 0, Did: "A"}, {Soldier: 1, At: 1, Did: "A"}},
		slices.Repeat([]impl.Mistake{good}, 20), slices.Repeat([]impl.Mistake{good}, 21), slices.Repeat([]impl.Mistake{good}, 1000),
	}
	for _, m := range wrong {
		lists = append(lists, []impl.Mistake{m}, []impl.Mistake{good, m}, []impl.Mistake{m, good})
	}
	return lists
}

// manyMistakes returns so many different mistakes of 30 soldiers with a word of 60 times `S`.
func manyMistakes(many int) []impl.Mistake {
	var list []impl.Mistake
	for k := range many {
		list = append(list, impl.Mistake{Soldier: k * 7 % 30, At: k * 11 % 60, Did: []string{"L", "R", "A"}[k%3]})
	}
	return list
}

func checkNoText(t *testing.T, what string, got string, ok bool) {
	t.Helper()
	if ok || got != "" {
		t.Errorf("%s: %q, %v, but it fails", what, got, ok)
	}
}

func TestDrillConstants(t *testing.T) {
	if impl.MaxCommands != 60 || impl.MaxDrilled != 30 || impl.MaxWays != 1000000000000000 {
		t.Error("limits", impl.MaxCommands, impl.MaxDrilled, impl.MaxWays)
	}
}

func TestDrillExample(t *testing.T) {
	n, ok := impl.NetTurn("LLR")
	checkInt(t, "turn", n, ok, 3)
	s, ok := impl.ShortCommands("LLR")
	checkText(t, "short", s, ok, "L")
	s, ok = impl.FacingAfter("0123", "LLR")
	checkText(t, "after", s, ok, "3012")
	n, ok = impl.RepeatsToFront("A")
	checkInt(t, "repeats", n, ok, 2)
	mistakes := []impl.Mistake{{Soldier: 1, At: 0, Did: "R"}}
	s, ok = impl.FacingWithMistakes("00", "LR", mistakes)
	checkText(t, "with mistakes", s, ok, "02")
	wrong, ok := impl.WrongSoldiers("00", "LR", mistakes)
	checkList(t, "wrong", wrong, ok, []int{1})
	s, ok = impl.CorrectionsOf("00", "LR", mistakes)
	checkText(t, "corrections", s, ok, "SA")
	n, ok = impl.CountCommandWords(2, 0)
	checkInt(t, "words", n, ok, 4)
	n, ok = impl.WaysToFace("L", 1, 0)
	checkInt(t, "ways", n, ok, 1)
	s, n, ok = impl.BestCommand("0013", 0)
	if s != "S" || n != 2 || !ok {
		t.Error("best", s, n, ok)
	}
}

func TestAreCommandsAndFacing(t *testing.T) {
	for _, word := range append(longWords(), shortWords(5)...) {
		if !impl.AreCommands(word) {
			t.Errorf("%q is a word", word)
		}
		if impl.AreFacing(word) {
			t.Errorf("%q is no facing", word)
		}
	}
	for _, text := range noWords() {
		if impl.AreCommands(text) {
			t.Errorf("%q is no word", text)
		}
	}
	for _, facing := range sampleFacings() {
		if !impl.AreFacing(facing) {
			t.Errorf("%q is a facing", facing)
		}
		if impl.AreCommands(facing) {
			t.Errorf("%q is no word", facing)
		}
	}
	for _, text := range noFacings() {
		if impl.AreFacing(text) {
			t.Errorf("%q is no facing", text)
		}
	}
	for code := range 256 {
		sign := string([]byte{byte(code)})
		if impl.AreCommands(sign) != strings.Contains("LRAS", sign) {
			t.Errorf("%q as a word", sign)
		}
		if impl.AreFacing(sign) != strings.Contains("0123", sign) {
			t.Errorf("%q as a facing", sign)
		}
	}
}

// Promise 4: words turn as their signs do.
func TestWordsTurnAsTheirSigns(t *testing.T) {
	for _, word := range append(longWords(), shortWords(5)...) {
		turn := wordTurn(word)
		n, ok := impl.NetTurn(word)
		checkInt(t, "NetTurn "+word, n, ok, turn)
		s, ok := impl.ShortCommands(word)
		checkText(t, "ShortCommands "+word, s, ok, []string{"", "R", "A", "L"}[turn])
		n, ok = impl.RepeatsToFront(word)
		checkInt(t, "RepeatsToFront "+word, n, ok, []int{1, 4, 2, 4}[turn])
		for _, facing := range append(longFacings(), "0", "1", "2", "3", "0123", "3321") {
			s, ok := impl.FacingAfter(facing, word)
			checkText(t, "FacingAfter "+facing+" "+word, s, ok, plainFacing(facing, slices.Repeat([]string{word}, len(facing))))
		}
	}
	for _, facing := range sampleFacings() {
		s, ok := impl.FacingAfter(facing, "")
		checkText(t, "FacingAfter nothing "+facing, s, ok, facing)
		s, ok = impl.FacingAfter(facing, "SALL")
		checkText(t, "FacingAfter SALL "+facing, s, ok, facing)
		for _, word := range []string{"L", "R", "A", "S", "LA"} {
			s, ok := impl.FacingAfter(facing, word)
			checkText(t, "FacingAfter "+facing+" "+word, s, ok, plainDone(facing, word, nil))
		}
	}
}

func TestTurnsOfWholeWords(t *testing.T) {
	known := map[string]int{
		"": 0, "L": 3, "R": 1, "A": 2, "S": 0, "LR": 0, "RR": 2, "RA": 3, "LA": 1,
		strings.Repeat("L", 60): 0, strings.Repeat("L", 59): 1, strings.Repeat("R", 59): 3, strings.Repeat("A", 59): 2,
		"R" + strings.Repeat("S", 59): 1, strings.Repeat("S", 59) + "L": 3, strings.Repeat("A", 59) + "S": 2,
	}
	for word, turn := range known {
		n, ok := impl.NetTurn(word)
		checkInt(t, "NetTurn "+word, n, ok, turn)
	}
}

// Promise 4: words that undo words, and words that are seen in a mirror.
func TestBackAndMirror(t *testing.T) {
	for _, word := range append(longWords(), shortWords(5)...) {
		mirror := strings.NewReplacer("L", "R", "R", "L").Replace(word)
		back := []byte(mirror)
		slices.Reverse(back)
		s, ok := impl.MirrorCommands(word)
		checkText(t, "MirrorCommands "+word, s, ok, mirror)
		s, ok = impl.BackCommands(word)
		checkText(t, "BackCommands "+word, s, ok, string(back))
		for _, facing := range []string{"0123", "3", strings.Repeat("1203", 7) + "31"} {
			there, ok := impl.FacingAfter(facing, word)
			if !ok {
				t.Error("FacingAfter", facing, word)
			}
			here, ok := impl.FacingAfter(there, s)
			checkText(t, "undone "+word, here, ok, facing)
		}
	}
}

func TestRepeatsLeadToFront(t *testing.T) {
	for _, word := range append(longWords(), shortWords(3)...) {
		times := 0
		for facing := "0123"; times == 0 || facing != "0123"; times++ {
			facing, _ = impl.FacingAfter(facing, word)
			if times > 4 {
				t.Fatal("no way to the front", word)
			}
		}
		n, ok := impl.RepeatsToFront(word)
		checkInt(t, "RepeatsToFront "+word, n, ok, times)
	}
}

func TestCountCommandWords(t *testing.T) {
	for length := range 8 {
		var counts [4]int
		for _, word := range textsOf("LRAS", length) {
			counts[wordTurn(word)]++
		}
		for turn, want := range counts {
			n, ok := impl.CountCommandWords(length, turn)
			checkInt(t, "CountCommandWords"+showList([]int{length, turn}), n, ok, want)
		}
	}
	for length := 1; length <= 24; length++ {
		for turn := range 4 {
			n, ok := impl.CountCommandWords(length, turn)
			checkInt(t, "CountCommandWords"+showList([]int{length, turn}), n, ok, 1<<(2*length-2))
		}
	}
	n, ok := impl.CountCommandWords(24, 3)
	checkInt(t, "the longest", n, ok, 70368744177664)
	n, ok = impl.CountCommandWords(0, 0)
	checkInt(t, "the empty word", n, ok, 1)
	n, ok = impl.CountCommandWords(0, 1)
	checkInt(t, "the empty word turns nobody", n, ok, 0)
	wrong := []int{-1, -2, math.MinInt, math.MinInt + 1, math.MaxInt - 1, math.MaxInt, 1 << 32, -1 << 32, 1 << 62}
	for _, length := range append([]int{25, 26, 60}, wrong...) {
		n, ok := impl.CountCommandWords(length, 0)
		checkFails(t, "CountCommandWords"+showList([]int{length, 0}), ok, n)
	}
	for _, turn := range append([]int{4, 5, 8}, wrong...) {
		for _, length := range []int{0, 1, 2, 24, 25, -1} {
			n, ok := impl.CountCommandWords(length, turn)
			checkFails(t, "CountCommandWords"+showList([]int{length, turn}), ok, n)
		}
	}
}

func TestAreMistakes(t *testing.T) {
	for _, d := range sampleDrills() {
		if !impl.AreMistakes(len(d.facing), d.word, d.mistakes) {
			t.Error("mistakes", d)
		}
		back := slices.Clone(d.mistakes)
		slices.Reverse(back)
		if !impl.AreMistakes(len(d.facing), d.word, back) {
			t.Error("mistakes from the last one on", d)
		}
	}
	for _, list := range noMistakes() {
		if impl.AreMistakes(2, "LR", list) {
			t.Error("no mistakes", list)
		}
	}
	for _, did := range []string{"L", "R", "A", "S"} {
		for at, sign := range []string{"L", "R", "A", "S"} {
			if impl.AreMistakes(1, "LRAS", []impl.Mistake{{Soldier: 0, At: at, Did: did}}) != (did != sign) {
				t.Error("did", did, "for", sign)
			}
		}
	}
	if impl.AreMistakes(1, "", []impl.Mistake{{Soldier: 0, At: 0, Did: "L"}}) {
		t.Error("a mistake in the empty word")
	}
}

func TestLimitsOfMistakes(t *testing.T) {
	stays := strings.Repeat("S", 60)
	for _, many := range []int{0, 1, 19, 20} {
		if !impl.AreMistakes(30, stays, manyMistakes(many)) {
			t.Error(many, "mistakes")
		}
	}
	for _, many := range []int{21, 22, 60} {
		if impl.AreMistakes(30, stays, manyMistakes(many)) {
			t.Error(many, "mistakes are too many")
		}
	}
	// 20 mistakes of one soldier, and one more.
	var alone []impl.Mistake
	for at := range 21 {
		alone = append(alone, impl.Mistake{Soldier: 0, At: at, Did: "R"})
	}
	if !impl.AreMistakes(1, stays[:21], alone[:20]) || impl.AreMistakes(1, stays[:21], alone) {
		t.Error("mistakes of one soldier")
	}
	places := []struct {
		soldier, at int
		want        bool
	}{{0, 0, true}, {29, 59, true}, {0, 59, true}, {29, 0, true}, {30, 0, false}, {0, 60, false}, {-1, 0, false}, {0, -1, false}, {30, 60, false}, {-1, -1, false}}
	for _, p := range places {
		if impl.AreMistakes(30, stays, []impl.Mistake{{Soldier: p.soldier, At: p.at, Did: "A"}}) != p.want {
			t.Error("place", p)
		}
	}
	last := []impl.Mistake{{Soldier: 28, At: 58, Did: "L"}}
	if !impl.AreMistakes(29, stays[:59], last) || impl.AreMistakes(28, stays[:59], last) || impl.AreMistakes(29, stays[:58], last) {
		t.Error("the last soldier and sign")
	}
}

func TestNumbersOfSoldiersWithMistakes(t *testing.T) {
	for soldiers := 1; soldiers <= 30; soldiers++ {
		if !impl.AreMistakes(soldiers, "", nil) || !impl.AreMistakes(soldiers, "LR", []impl.Mistake{}) {
			t.Error("no mistake of", soldiers)
		}
	}
	one := []impl.Mistake{{Soldier: 0, At: 0, Did: "S"}}
	for _, soldiers := range []int{0, -1, 31, 32, 60, 1 << 32, 1<<32 + 1, -1 << 32, math.MinInt, math.MinInt + 1, math.MaxInt - 1, math.MaxInt} {
		if impl.AreMistakes(soldiers, "", nil) || impl.AreMistakes(soldiers, "LR", nil) || impl.AreMistakes(soldiers, "LR", one) {
			t.Error("there are no", soldiers, "soldiers")
		}
	}
	for _, text := range noWords() {
		if impl.AreMistakes(1, text, nil) || impl.AreMistakes(30, text, []impl.Mistake{}) || impl.AreMistakes(2, text, one) {
			t.Errorf("%q is no word", text)
		}
	}
}

// Promise 4: corrections put mistakes right.
func TestMistakesAndCorrections(t *testing.T) {
	for _, d := range sampleDrills() {
		want, told := plainDone(d.facing, d.word, d.mistakes), plainDone(d.facing, d.word, nil)
		done, ok := impl.FacingWithMistakes(d.facing, d.word, d.mistakes)
		checkText(t, "FacingWithMistakes "+d.String(), done, ok, want)
		var off []int
		for k := range len(told) {
			if want[k] != told[k] {
				off = append(off, k)
			}
		}
		wrong, ok := impl.WrongSoldiers(d.facing, d.word, d.mistakes)
		checkList(t, "WrongSoldiers "+d.String(), wrong, ok, off)
		corrections, ok := impl.CorrectionsOf(d.facing, d.word, d.mistakes)
		if !ok || len(corrections) != len(told) || strings.Trim(corrections, "LRAS") != "" {
			t.Fatal("CorrectionsOf", d, corrections, ok)
		}
		checkText(t, "put right "+d.String(), plainFacing(want, strings.Split(corrections, "")), true, told)
		for k := range len(told) {
			if (corrections[k] == 'S') == slices.Contains(off, k) {
				t.Error("CorrectionsOf", d, corrections, "but wrong are", off)
			}
		}
	}
}

func TestMistakesThatMakeUpForEachOther(t *testing.T) {
	mistakes := []impl.Mistake{{Soldier: 2, At: 1, Did: "A"}, {Soldier: 0, At: 0, Did: "R"}, {Soldier: 0, At: 1, Did: "L"}, {Soldier: 2, At: 2, Did: "L"}}
	s, ok := impl.FacingWithMistakes("012", "LRS", mistakes)
	checkText(t, "done", s, ok, "012")
	wrong, ok := impl.WrongSoldiers("012", "LRS", mistakes)
	checkList(t, "wrong", wrong, ok, nil)
	s, ok = impl.CorrectionsOf("012", "LRS", mistakes)
	checkText(t, "corrections", s, ok, "SSS")
	s, ok = impl.CorrectionsOf("012", "LRS", mistakes[:2])
	checkText(t, "corrections of two", s, ok, "ASL")
	wrong, ok = impl.WrongSoldiers("012", "LRS", mistakes[:2])
	checkList(t, "wrong of two", wrong, ok, []int{0, 2})
	for _, at := range []int{0, 59} {
		last := []impl.Mistake{{Soldier: 29, At: at, Did: "L"}, {Soldier: 0, At: at, Did: "R"}}
		s, ok = impl.CorrectionsOf(strings.Repeat("3", 30), strings.Repeat("A", 60), last)
		checkText(t, "corrections of the first and the last", s, ok, "R"+strings.Repeat("S", 28)+"L")
	}
}

func checkNoDrill(t *testing.T, d drillOfMistakes) {
	t.Helper()
	s, ok := impl.FacingWithMistakes(d.facing, d.word, d.mistakes)
	checkNoText(t, "FacingWithMistakes "+d.String(), s, ok)
	wrong, ok := impl.WrongSoldiers(d.facing, d.word, d.mistakes)
	if ok || len(wrong) > 0 {
		t.Error("WrongSoldiers", d, wrong, ok)
	}
	s, ok = impl.CorrectionsOf(d.facing, d.word, d.mistakes)
	checkNoText(t, "CorrectionsOf "+d.String(), s, ok)
}

func TestDrillsThatAreNone(t *testing.T) {
	for _, list := range noMistakes() {
		checkNoDrill(t, drillOfMistakes{"00", "LR", list})
	}
	checkNoDrill(t, drillOfMistakes{strings.Repeat("0", 30), strings.Repeat("S", 60), manyMistakes(21)})
	for _, facing := range noFacings() {
		checkNoDrill(t, drillOfMistakes{facing, "LR", nil})
		checkNoDrill(t, drillOfMistakes{facing, "", nil})
		checkNoDrill(t, drillOfMistakes{facing, "LR", []impl.Mistake{{Soldier: 0, At: 0, Did: "S"}}})
	}
	for _, word := range noWords() {
		checkNoDrill(t, drillOfMistakes{"00", word, nil})
		checkNoDrill(t, drillOfMistakes{"00", word, []impl.Mistake{{Soldier: 0, At: 0, Did: "S"}}})
	}
}

// plainWays counts what one can do with a word, by trying all.
func plainWays(word string) map[[2]int]int {
	ways := map[[2]int]int{}
	for _, done := range textsOf("LRAS", len(word)) {
		mistakes := 0
		for k := range len(word) {
			if done[k] != word[k] {
				mistakes++
			}
		}
		ways[[2]int{mistakes, wordTurn(done)}]++
	}
	return ways
}

// knownWays tells by a formula in how many ways so many mistakes in a word of a length change its turn by by: which commands they replace does not matter.
func knownWays(length, mistakes, by int) *big.Int {
	power := new(big.Int).Exp(big.NewInt(3), big.NewInt(int64(mistakes)), nil)
	share := int64(-1)
	if by == 0 {
		share = 3
	}
	if mistakes%2 == 1 {
		share = -share
	}
	power.Add(power, big.NewInt(share)).Div(power, big.NewInt(4))
	return power.Mul(power, new(big.Int).Binomial(int64(length), int64(mistakes)))
}

func TestWaysToFaceOfShortWords(t *testing.T) {
	words := append(shortWords(4), "LRASL", "SSSSSS", "AALRRA", "LLLLLL", "RASLRAS")
	for _, word := range words {
		ways := plainWays(word)
		for mistakes := range 61 {
			for turn := range 4 {
				n, ok := impl.WaysToFace(word, mistakes, turn)
				checkInt(t, "WaysToFace "+word+showList([]int{mistakes, turn}), n, ok, ways[[2]int{mistakes, turn}])
			}
		}
	}
	n, ok := impl.WaysToFace("", 0, 0)
	checkInt(t, "the empty word", n, ok, 1)
	n, ok = impl.WaysToFace("", 1, 0)
	checkInt(t, "a mistake in the empty word", n, ok, 0)
}

func TestWaysToFaceOfLongWords(t *testing.T) {
	most := big.NewInt(1000000000000000)
	least, greatest := new(big.Int).Lsh(most, 100), big.NewInt(0)
	for length := range 61 {
		for _, word := range []string{strings.Repeat("L", length), strings.Repeat("LRAS", 15)[:length], strings.Repeat("SSRAA", 12)[:length]} {
			for mistakes := range 61 {
				for turn := range 4 {
					what := "WaysToFace " + word + showList([]int{mistakes, turn})
					want := knownWays(length, mistakes, (turn-wordTurn(word)+4)%4)
					n, ok := impl.WaysToFace(word, mistakes, turn)
					if want.Cmp(most) > 0 {
						checkFails(t, what, ok, n)
						if want.Cmp(least) < 0 {
							least = want
						}
						continue
					}
					checkInt(t, what, n, ok, int(want.Int64()))
					if want.Cmp(greatest) > 0 {
						greatest = want
					}
				}
			}
		}
	}
	if greatest.String() != "979085369235600" || least.String() != "1000651043497248" {
		t.Error("nearest to MaxWays are", greatest, least)
	}
}

// No word comes to just MaxWays; these are the nearest ones.
func TestMaxWays(t *testing.T) {
	n, ok := impl.WaysToFace(strings.Repeat("S", 33), 14, 0)
	checkInt(t, "nearest below", n, ok, 979085369235600)
	n, ok = impl.WaysToFace(strings.Repeat("S", 33), 14, 2)
	checkInt(t, "a little less", n, ok, 979084550426400)
	n, ok = impl.WaysToFace(strings.Repeat("R", 48), 11, 0)
	checkFails(t, "nearest above", ok, n)
	n, ok = impl.WaysToFace(strings.Repeat("A", 60), 45, 1)
	checkFails(t, "far above", ok, n)
	n, ok = impl.WaysToFace(strings.Repeat("A", 60), 60, 1)
	checkFails(t, "all wrong", ok, n)
	n, ok = impl.WaysToFace(strings.Repeat("A", 59), 60, 1)
	checkInt(t, "one mistake more than signs", n, ok, 0)
	n, ok = impl.WaysToFace(strings.Repeat("A", 60), 0, 0)
	checkInt(t, "all right", n, ok, 1)
}

func TestWaysToFaceLimits(t *testing.T) {
	wrong := []int{-1, -2, math.MinInt, math.MinInt + 1, math.MaxInt - 1, math.MaxInt, 1 << 32, -1 << 32, 1 << 62}
	for _, word := range []string{"", "L", "LR", strings.Repeat("S", 60)} {
		for _, mistakes := range append([]int{61, 62, 100}, wrong...) {
			n, ok := impl.WaysToFace(word, mistakes, 0)
			checkFails(t, "WaysToFace "+word+showList([]int{mistakes, 0}), ok, n)
		}
		for _, turn := range append([]int{4, 5, 8}, wrong...) {
			for _, mistakes := range []int{0, 1, 60, 61, -1} {
				n, ok := impl.WaysToFace(word, mistakes, turn)
				checkFails(t, "WaysToFace "+word+showList([]int{mistakes, turn}), ok, n)
			}
		}
	}
	for _, text := range noWords() {
		n, ok := impl.WaysToFace(text, 0, 0)
		checkFails(t, "WaysToFace "+strconv.Quote(text), ok, n)
	}
}

func TestBestCommand(t *testing.T) {
	for _, facing := range sampleFacings() {
		for way := range 4 {
			best, most := "", -1
			for _, sign := range []string{"S", "L", "R", "A"} {
				count := strings.Count(plainDone(facing, sign, nil), strconv.Itoa(way))
				if count > most {
					best, most = sign, count
				}
			}
			s, n, ok := impl.BestCommand(facing, way)
			if s != best || n != most || !ok {
				t.Error("BestCommand", facing, way, s, n, ok, "not", best, most)
			}
		}
	}
	known := []struct {
		facing string
		way    int
		sign   string
		most   int
	}{
		{"0", 0, "S", 1}, {"0", 1, "R", 1}, {"0", 2, "A", 1}, {"0", 3, "L", 1}, {"0123", 2, "S", 1}, {"1223", 0, "A", 2}, {"13", 0, "L", 1}, {"31", 0, "L", 1},
		{"23", 0, "R", 1}, {"112233", 0, "L", 2}, {"2233", 0, "R", 2}, {strings.Repeat("1", 30), 3, "A", 30}, {strings.Repeat("01", 15), 1, "S", 15},
	}
	for _, k := range known {
		s, n, ok := impl.BestCommand(k.facing, k.way)
		if s != k.sign || n != k.most || !ok {
			t.Error("BestCommand", k, s, n, ok)
		}
	}
}

func TestMostFaced(t *testing.T) {
	for _, facing := range sampleFacings() {
		best, most := 0, 0
		for way := range 4 {
			if count := strings.Count(facing, strconv.Itoa(way)); count > most {
				best, most = way, count
			}
		}
		way, n, ok := impl.MostFaced(facing)
		checkTwo(t, "MostFaced "+facing, way, n, ok, best, most)
	}
	way, n, ok := impl.MostFaced("3")
	checkTwo(t, "one soldier", way, n, ok, 3, 1)
	way, n, ok = impl.MostFaced("3322110")
	checkTwo(t, "three ways as many", way, n, ok, 1, 2)
	way, n, ok = impl.MostFaced("3210")
	checkTwo(t, "all ways as many", way, n, ok, 0, 1)
	way, n, ok = impl.MostFaced(strings.Repeat("2", 30))
	checkTwo(t, "all the same", way, n, ok, 2, 30)
}

func TestCommandsBetween(t *testing.T) {
	check := func(from, to string) {
		t.Helper()
		s, ok := impl.CommandsBetween(from, to)
		if !ok || len(s) != len(from) || strings.Trim(s, "LRAS") != "" {
			t.Fatal("CommandsBetween", from, to, s, ok)
		}
		checkText(t, "there from "+from+" by "+s, plainFacing(from, strings.Split(s, "")), true, to)
	}
	for soldiers := 1; soldiers <= 3; soldiers++ {
		for _, from := range textsOf("0123", soldiers) {
			for _, to := range textsOf("0123", soldiers) {
				check(from, to)
			}
		}
	}
	for _, from := range longFacings() {
		for _, to := range longFacings() {
			if len(from) == len(to) {
				check(from, to)
				continue
			}
			s, ok := impl.CommandsBetween(from, to)
			checkNoText(t, "CommandsBetween "+from+" "+to, s, ok)
		}
		s, ok := impl.CommandsBetween(from, from)
		checkText(t, "all stay", s, ok, strings.Repeat("S", len(from)))
	}
	s, ok := impl.CommandsBetween("0000", "0123")
	checkText(t, "each command", s, ok, "SRAL")
	unlike := [][2]string{{"0", "00"}, {"00", "0"}, {strings.Repeat("0", 29), strings.Repeat("0", 30)}, {strings.Repeat("0", 30), strings.Repeat("0", 31)}, {strings.Repeat("0", 31), strings.Repeat("0", 31)}, {"", ""}, {"", "0"}, {"0", ""}}
	for _, pair := range unlike {
		s, ok := impl.CommandsBetween(pair[0], pair[1])
		checkNoText(t, "CommandsBetween "+pair[0]+" "+pair[1], s, ok)
	}
}

// Promise 11: texts of all kinds are accepted.
func TestTextsThatAreNoWords(t *testing.T) {
	for _, text := range noWords() {
		what := strconv.Quote(text)
		n, ok := impl.NetTurn(text)
		checkFails(t, "NetTurn "+what, ok, n)
		s, ok := impl.FacingAfter("0123", text)
		checkNoText(t, "FacingAfter "+what, s, ok)
		s, ok = impl.ShortCommands(text)
		checkNoText(t, "ShortCommands "+what, s, ok)
		s, ok = impl.BackCommands(text)
		checkNoText(t, "BackCommands "+what, s, ok)
		s, ok = impl.MirrorCommands(text)
		checkNoText(t, "MirrorCommands "+what, s, ok)
		n, ok = impl.RepeatsToFront(text)
		checkFails(t, "RepeatsToFront "+what, ok, n)
	}
}

func TestTextsThatAreNoFacings(t *testing.T) {
	for _, text := range noFacings() {
		what := strconv.Quote(text)
		for _, word := range []string{"", "L", "x"} {
			s, ok := impl.FacingAfter(text, word)
			checkNoText(t, "FacingAfter "+what, s, ok)
		}
		way, n, ok := impl.MostFaced(text)
		checkFails(t, "MostFaced "+what, ok, way, n)
		for way := range 4 {
			s, n, ok := impl.BestCommand(text, way)
			checkNoText(t, "BestCommand "+what, s, ok)
			checkFails(t, "BestCommand "+what, ok, n)
		}
		for _, other := range []string{"0", "01", strings.Repeat("1", 30), text} {
			s, ok := impl.CommandsBetween(text, other)
			checkNoText(t, "CommandsBetween "+what+" and "+other, s, ok)
			s, ok = impl.CommandsBetween(other, text)
			checkNoText(t, "CommandsBetween "+other+" and "+what, s, ok)
		}
	}
	for _, way := range []int{-1, 4, 5, -4, math.MinInt, math.MinInt + 1, math.MaxInt - 1, math.MaxInt, 1 << 32, -1 << 32} {
		for _, facing := range []string{"0", "0013", strings.Repeat("3", 30), "", "4"} {
			s, n, ok := impl.BestCommand(facing, way)
			checkNoText(t, "BestCommand "+facing+showList([]int{way}), s, ok)
			checkFails(t, "BestCommand "+facing+showList([]int{way}), ok, n)
		}
	}
}

// Promise 11: lists of mistakes are not modified, nor is what lies behind their length read.
func TestMistakesAreNotModified(t *testing.T) {
	list := []impl.Mistake{{Soldier: 1, At: 0, Did: "R"}, {Soldier: 1, At: 1, Did: "S"}, {Soldier: 9, At: 9, Did: "none"}, {Soldier: 1, At: 0, Did: "R"}}
	want := slices.Clone(list)
	s, ok := impl.FacingWithMistakes("00", "LR", list[:2])
	checkText(t, "done", s, ok, "01")
	wrong, ok := impl.WrongSoldiers("00", "LR", list[:2])
	checkList(t, "wrong", wrong, ok, []int{1})
	s, ok = impl.CorrectionsOf("00", "LR", list[:2])
	checkText(t, "corrections", s, ok, "SL")
	if !impl.AreMistakes(2, "LR", list[:2]) || impl.AreMistakes(2, "LR", list) || impl.AreMistakes(2, "LR", list[:3]) {
		t.Error("mistakes", list)
	}
	checkNoDrill(t, drillOfMistakes{"00", "LR", list})
	if !slices.Equal(list, want) {
		t.Error("modified", list)
	}
}

// Promise 11: results are new memory.
func TestWrongSoldiersAreNew(t *testing.T) {
	mistakes := manyMistakes(20)
	facing, word := strings.Repeat("0", 30), strings.Repeat("S", 60)
	first, _ := impl.WrongSoldiers(facing, word, mistakes)
	want := slices.Clone(first)
	clear(first[:cap(first)])
	second, ok := impl.WrongSoldiers(facing, word, mistakes)
	checkList(t, "again", second, ok, want)
	if len(want) == 0 {
		t.Error("nobody is wrong")
	}
}

// Promise 11: numbers and texts of whatever size are accepted, in all orders.
func TestDrillArgumentsOfAllSizes(t *testing.T) {
	numbers := []int{math.MinInt, math.MinInt + 1, -1 << 32, -61, -4, -1, 0, 1, 2, 3, 4, 24, 25, 29, 30, 31, 59, 60, 61, 1 << 32, 1 << 62, math.MaxInt - 1, math.MaxInt}
	texts := append(append(noWords(), noFacings()...), "LRAS", "0123", strings.Repeat("A", 60), strings.Repeat("1", 30))
	lists := append(noMistakes(), nil, manyMistakes(20), manyMistakes(21))
	for _, a := range texts {
		for _, n := range numbers {
			impl.BestCommand(a, n)
			for _, m := range numbers {
				impl.CountCommandWords(n, m)
				impl.WaysToFace(a, n, m)
				impl.AreMistakes(n, a, []impl.Mistake{{Soldier: n, At: m, Did: a}, {Soldier: m, At: n, Did: a}})
			}
		}
		for _, b := range texts {
			impl.FacingAfter(a, b)
			impl.CommandsBetween(a, b)
			for _, list := range lists {
				impl.FacingWithMistakes(a, b, list)
				impl.WrongSoldiers(a, b, list)
				impl.CorrectionsOf(a, b, list)
			}
		}
	}
}
