package tests

import (
	"fmt"
	"regexp"
	"slices"
	"strconv"
	"strings"
	"testing"

	"loop.example/g01332/impl"
)

// deskOf returns a desk whose Row and Goal have a blank between them in the text.
func deskOf(text string) impl.Desk {
	row, goal, _ := strings.Cut(text, " ")
	return impl.Desk{Row: row, Goal: goal}
}

// cutShort keeps long texts out of messages.
func cutShort(text string) string { return strconv.Quote(text[:min(len(text), 60)]) }

// scriptOf returns the script of some lines.
func scriptOf(lines ...string) string {
	script := ""
	for _, line := range lines {
		script += line + "\n"
	}
	return script
}

func isRefusal(reply string) bool { return reply == "no" || reply == "what" }

func checkDesk(t *testing.T, what string, got impl.Desk, ok bool, want impl.Desk) {
	t.Helper()
	if !ok || got != want {
		t.Errorf("%s: %q, %v, not %q", what, got, ok, want)
	}
}

// checkLine checks the desk behind a line, and the reply.
func checkLine(t *testing.T, d impl.Desk, line string, wantDesk impl.Desk, want string) {
	t.Helper()
	got, reply, ok := impl.DeskLine(d, line)
	if !ok || got != wantDesk || reply != want {
		t.Errorf("%q, the line %s: %q, %s, %v, not %q, %s", d, cutShort(line), got, cutShort(reply), ok, wantDesk, cutShort(want))
	}
}

// checkRefused checks that a line has the reply no or what, and changes nothing.
func checkRefused(t *testing.T, d impl.Desk, line string, want string) {
	t.Helper()
	checkLine(t, d, line, d, want)
}

func checkNoLine(t *testing.T, d impl.Desk, line string) {
	t.Helper()
	got, reply, ok := impl.DeskLine(d, line)
	if ok || got != (impl.Desk{}) || reply != "" {
		t.Errorf("%s and %s, the line %s: %q, %q, %v, but it fails", cutShort(d.Row), cutShort(d.Goal), cutShort(line), got, reply, ok)
	}
}

func checkNoScript(t *testing.T, s string) {
	t.Helper()
	replies, ok := impl.RunScript(s)
	checkNoTexts(t, "RunScript "+cutShort(s), replies, ok)
	d, ok := impl.DeskAfter(s)
	if ok || d != (impl.Desk{}) {
		t.Errorf("DeskAfter %s: %q, %v, but it fails", cutShort(s), d, ok)
	}
	failed, ok := impl.FailedLines(s)
	checkNoList(t, "FailedLines "+cutShort(s), failed, ok)
}

// checkScript checks a script by its lines, each executed on the desk behind the one before.
func checkScript(t *testing.T, lines ...string) {
	t.Helper()
	s := scriptOf(lines...)
	d := impl.FirstDesk()
	var replies []string
	var failed []int
	for k, line := range lines {
		after, reply, ok := impl.DeskLine(d, line)
		if !ok {
			t.Error("no line", cutShort(line))
		}
		replies = append(replies, reply)
		if isRefusal(reply) {
			failed = append(failed, k+1)
		}
		d = after
	}
	got, ok := impl.RunScript(s)
	checkList(t, "RunScript "+cutShort(s), got, ok, replies)
	after, ok := impl.DeskAfter(s)
	checkDesk(t, "DeskAfter "+cutShort(s), after, ok, d)
	numbers, ok := impl.FailedLines(s)
	checkList(t, "FailedLines "+cutShort(s), numbers, ok, failed)
}

// saidText tells an empty text as replies do.
func saidText(text string) string {
	if text == "" {
		return "-"
	}
	return text
}

func saidList(list []int) string {
	return saidText(strings.ReplaceAll(strings.Trim(fmt.Sprint(list), "[]"), " ", ","))
}

func saidLists(lists [][]int) string {
	text := strings.Trim(fmt.Sprint(lists), "[]")
	return saidText(strings.ReplaceAll(strings.ReplaceAll(text, " ", ","), "],[", " "))
}

// wordForms tell by their form which words are rows, numbers, lists of numbers, and PacesTexts if no number is too great.
var wordForms = map[byte]*regexp.Regexp{
	'R': regexp.MustCompile(`^[<>]{1,40}$`),
	'N': regexp.MustCompile(`^(0|[1-9][0-9]{0,5})$`),
	'L': regexp.MustCompile(`^(0|[1-9][0-9]{0,5})(,(0|[1-9][0-9]{0,5}))*$`),
	'P': regexp.MustCompile(`^[1-9][0-9]?\+(0|[1-9][0-9]?)(,[1-9][0-9]?\+(0|[1-9][0-9]?)){0,5}$`),
}

// lineForm is how lines with one name look, and what the calls do that they name: they return the Row behind the line, or what is asked.
type lineForm struct {
	name  string
	words string
	moves func(d impl.Desk, w lineWords) (string, bool)
	asks  func(d impl.Desk, w lineWords) (string, bool)
}

// lineWords are the words behind the name of a line.
type lineWords []string

func (w lineWords) number(k int) int {
	number, _ := strconv.Atoi(w[k])
	return number
}

func (w lineWords) list(k int) []int {
	var list []int
	for _, part := range strings.Split(w[k], ",") {
		number, _ := strconv.Atoi(part)
		list = append(list, number)
	}
	return list
}

func (w lineWords) paces(k int) []impl.Pace {
	var numbers []int
	for _, text := range numberForm.FindAllString(w[k], -1) {
		number, _ := strconv.Atoi(text)
		numbers = append(numbers, number)
	}
	return pacesOf(numbers...)
}

// isWord reports whether a word is one of a kind.
func (w lineWords) isWord(kind byte, k int) bool {
	if !wordForms[kind].MatchString(w[k]) {
		return false
	}
	return kind != 'P' || !slices.ContainsFunc(w.paces(k), func(p impl.Pace) bool { return p.Every > 60 || p.From >= p.Every })
}

// isLine tells lines with this name by their form.
func (f lineForm) isLine(line string) (lineWords, bool) {
	name, behind, hasWords := strings.Cut(line, " ")
	var w lineWords
	if hasWords {
		w = strings.Split(behind, " ")
	}
	if name != f.name || len(w) != len(f.words) {
		return nil, false
	}
	for k := range w {
		if !w.isWord(f.words[k], k) {
			return nil, false
		}
	}
	return w, true
}

func saidNumber(number int, ok bool) (string, bool) { return strconv.Itoa(number), ok }

func saidNumbers(list []int, ok bool) (string, bool) { return saidList(list), ok }

func saidPairs(lists [][]int, ok bool) (string, bool) { return saidLists(lists), ok }

// lineForms returns those of all lines but row and goal.
func lineForms() []lineForm {
	type desk = impl.Desk
	return []lineForm{
		{name: "tick", moves: func(d desk, w lineWords) (string, bool) { return impl.TickRow(d.Row) }},
		{name: "rest", moves: func(d desk, w lineWords) (string, bool) { return impl.RestOf(d.Row) }},
		{name: "mirror", moves: func(d desk, w lineWords) (string, bool) { return impl.MirrorRow(d.Row) }},
		{name: "run", words: "NN", moves: func(d desk, w lineWords) (string, bool) { return impl.TurnRun(d.Row, w.number(0), w.number(1)) }},
		{name: "first", words: "N", moves: func(d desk, w lineWords) (string, bool) { return impl.TurnFirst(d.Row, w.number(0)) }},
		{name: "near", words: "N", moves: func(d desk, w lineWords) (string, bool) { return impl.TurnAround(d.Row, w.number(0)) }},
		{name: "show", asks: func(d desk, w lineWords) (string, bool) { return d.Row, true }},
		{name: "aim", asks: func(d desk, w lineWords) (string, bool) { return d.Goal, true }},
		{name: "pairs", asks: func(d desk, w lineWords) (string, bool) { return saidNumbers(impl.FacingPairs(d.Row)) }},
		{name: "ticks", asks: func(d desk, w lineWords) (string, bool) { return saidNumber(impl.TicksToRest(d.Row)) }},
		{name: "turns", asks: func(d desk, w lineWords) (string, bool) { return saidNumber(impl.CountTurns(d.Row)) }},
		{name: "before", asks: func(d desk, w lineWords) (string, bool) {
			rows, ok := impl.RowsBefore(d.Row)
			return saidText(strings.Trim(fmt.Sprint(rows), "[]")), ok
		}},
		{name: "runs", asks: func(d desk, w lineWords) (string, bool) { return saidPairs(impl.RunsTo(d.Row, d.Goal)) }},
		{name: "firsts", asks: func(d desk, w lineWords) (string, bool) { return saidNumbers(impl.FirstsTo(d.Row, d.Goal)) }},
		{name: "windows", words: "N", asks: func(d desk, w lineWords) (string, bool) {
			return saidNumbers(impl.WindowsTo(d.Row, d.Goal, w.number(0)))
		}},
		{name: "nears", asks: func(d desk, w lineWords) (string, bool) { return saidNumbers(impl.NeighboursTo(d.Row, d.Goal)) }},
		{name: "shape", words: "N", asks: func(d desk, w lineWords) (string, bool) { return saidPairs(impl.RectanglesOf(w.number(0))) }},
		{name: "hollow", words: "N", asks: func(d desk, w lineWords) (string, bool) { return saidPairs(impl.HollowsOf(w.number(0))) }},
		{name: "least", words: "LL", asks: func(d desk, w lineWords) (string, bool) {
			return saidNumber(impl.LeastWith(w.list(0), w.list(1)))
		}},
		{name: "beats", words: "PN", asks: func(d desk, w lineWords) (string, bool) {
			text, ok := impl.BeatsOf(w.paces(0), w.number(1))
			return saidText(text), ok
		}},
		{name: "meet", words: "P", asks: func(d desk, w lineWords) (string, bool) { return saidNumber(impl.FirstTogether(w.paces(0))) }},
	}
}

// plainLine tells the desk behind a line and the reply by the form of the line and by the calls that it names.
func plainLine(d impl.Desk, line string) (impl.Desk, string) {
	if w, ok := (lineForm{name: "row", words: "R"}).isLine(line); ok {
		return impl.Desk{Row: w[0], Goal: w[0]}, w[0]
	}
	if w, ok := (lineForm{name: "goal", words: "R"}).isLine(line); ok {
		if len(w[0]) != len(d.Row) {
			return d, "no"
		}
		return impl.Desk{Row: d.Row, Goal: w[0]}, w[0]
	}
	for _, f := range lineForms() {
		w, isLine := f.isLine(line)
		if !isLine {
			continue
		}
		call := f.asks
		if f.moves != nil {
			call = f.moves
		}
		result, ok := call(d, w)
		if !ok {
			return d, "no"
		}
		if f.moves != nil {
			d.Row = result
		}
		return d, result
	}
	return d, "what"
}

func checkPlain(t *testing.T, d impl.Desk, line string) {
	t.Helper()
	after, reply := plainLine(d, line)
	checkLine(t, d, line, after, reply)
	if isRefusal(reply) && after != d {
		t.Error("changed", line)
	}
}

// sampleDesks returns desks of one soldier up to MaxOrdered: with rows at rest and others, with goals that are the Row, that one order leads to, that some orders lead to and others do not.
func sampleDesks() []impl.Desk {
	desks := []impl.Desk{impl.FirstDesk()}
	for _, row := range append(shortRows(3), "<><<", "><><", "<<>>", ">>><<", "<><>>", ">>><<<", "<>><<>>", "><><><><><><", "<<<<<<>>>>>>", ">>>>>>><<<<<<", strings.Repeat("><", 20), strings.Repeat(">", 20)+strings.Repeat("<", 20), strings.Repeat("<", 40), strings.Repeat("<", 39)) {
		for _, goal := range otherRows(row)[:15] {
			desks = append(desks, impl.Desk{Row: row, Goal: goal})
		}
	}
	return desks
}

// goodNumbers returns words that are numbers.
func goodNumbers() []string {
	words := []string{"11", "12", "13", "32", "36", "38", "39", "40", "41", "42", "60", "100", "199", "200", "201", "1000", "1001", "65536", "99999", "100000", "999998", "999999"}
	for number := range 10 {
		words = append(words, strconv.Itoa(number))
	}
	return words
}

// noNumberWords returns words that are no numbers.
func noNumberWords() []string {
	words := []string{
		"", "-", "+", ",", ".", "_", "a", "x1", "1x", "one", "<", ">", "><", "1000000", "1000001", "9999999", "10000000", "00", "01", "007", "0000000", "0999999", "000001", "00000000000000000001", "-0", "+0", "-1", "+1", "-999999", "--1", "1-", "1+", "1+0", "1,", ",1", "1,2", "1.", ".1", "1.0", "1e0", "1e5", "0x1", "0b1", "0o1", "1_0", "1_000", "10_0", "1\t", "\t1", "1\r", "\v1", "1\x00", "\x001", "1\xff", "\xff", "é", "１", "٣", "²", "½", "1\u00a0", "\u00a01", "\u20031", "\xef\xbb\xbf1", "N", "K", "inf", "NaN",
		"4294967296", "4294967297", "9223372036854775807", "9223372036854775808", "9223372036854775809", "-9223372036854775808", "18446744073709551615", "18446744073709551616", "18446744073709551617", "100000000000000000000000000000001", strings.Repeat("0", 1000) + "1", strings.Repeat("1", 1000),
	}
	return words
}

// noRowWords returns words that are no rows of at most MaxOrdered soldiers.
func noRowWords() []string {
	var words []string
	for _, text := range append(noOrderedRows(), "<><<\r", "R", "<,>", "<-", "-<", "<<1", "0", "1") {
		if len(text) < 2000 && !strings.ContainsAny(text, " \n") {
			words = append(words, text)
		}
	}
	return words
}

// goodLists returns words that are lists of numbers, of columns and of what is left over in them.
func goodLists() []string {
	return []string{
		"0", "1", "2", "3", "999", "1000", "1001", "999999", "0,0", "1,1", "2,3", "1,2", "2,4", "1,3", "1,0", "0,1", "3,5,7", "2,3,2", "3,5,0", "6,10,15", "5,3,8", "1,1,1,1,1,1", "0,0,0,0,0,0", "2,3,5,7,11,13", "1,2,4,6,10,12", "1000,999,997,991,983,977", "999,998,996,990,982,976", "1,1,1,1,1,1,1", "0,0,0,0,0,0,0", "999999,999999", "7,7", "4,5",
	}
}

// noLists returns words that are no lists of numbers.
func noLists() []string {
	words := []string{"", ",", ",,", "3,", ",3", "3,,5", "3,5,", ",3,5", "3,5,,7", "3;5", "3.5", "3/5", "3,5;7", "[3,5]", "3,x", "x,3", "3,1000000", "1000000,3", "3,05", "03,5", "3,-5", "-3,5", "3,+5", "3,5\t", "3,\t5", "3，5", "3,５", "3,5\x00", "3,5\xff", "3,5\r", "3,<", "2+0", "2+0,3+1", "3,2+0", strings.Repeat(",", 500), strings.Repeat("1,", 500)}
	for _, word := range noNumberWords() {
		if !strings.Contains(word, ",") {
			words = append(words, word, "3,"+word, word+",3", "3,"+word+",5")
		}
	}
	return words
}

// goodPaces returns words that are PacesTexts, of one pace up to MaxStepping.
func goodPaces() []string {
	words := []string{"1+0", "2+0", "2+1", "60+0", "60+59", "2+0,3+1", "2+0,4+1", "3+1,2+0", "1+0,1+0", "60+59,59+58", "5+4,3+1", "6+1,10+3,15+7", "6+1,10+3,15+8"}
	words = append(words, strings.Repeat("1+0,", 5)+"1+0", strings.Repeat("60+59,", 5)+"60+59", "59+58,58+57,57+56,55+54,53+52,49+48", "2+0,4+1,8+3,16+7,32+15,60+31")
	return words
}

// noPacesWords returns words that are no PacesTexts.
func noPacesWords() []string {
	var words []string
	for _, text := range append(noPacesTexts(), "1+0,1+0,1+0,1+0,1+0,1+0,1+0", "2+0,3+1\r", "P", "2+0\t", "-", "<", "2+2", "0+0", "61+0") {
		if len(text) < 2000 && !strings.ContainsAny(text, " \n") {
			words = append(words, text)
		}
	}
	return words
}

// goodLines returns a line of each form in the table.
func goodLines() []string {
	return []string{
		"row >><", "goal <<<<", "tick", "rest", "mirror", "run 1 2", "first 3", "near 2", "show", "aim", "pairs", "ticks", "turns", "before", "runs", "firsts", "windows 1", "nears", "shape 12", "hollow 32", "least 3,5,7 2,3,2", "beats 2+0,3+1 8", "meet 2+0,3+1",
	}
}

// sampleLines returns lines of each form with words that are well formed.
func sampleLines() []string {
	lines := goodLines()
	for _, row := range append(shortRows(5), strings.Repeat("<", 39), strings.Repeat(">", 40), strings.Repeat("><", 20)) {
		lines = append(lines, "row "+row, "goal "+row)
	}
	for _, number := range goodNumbers() {
		lines = append(lines, "first "+number, "near "+number, "windows "+number, "shape "+number, "hollow "+number, "run 0 "+number, "run "+number+" 3", "run 12 "+number, "run "+number+" "+number, "beats 2+0,3+1 "+number)
	}
	for _, paces := range goodPaces() {
		lines = append(lines, "meet "+paces, "beats "+paces+" 0", "beats "+paces+" 1", "beats "+paces+" 200", "beats "+paces+" 201")
	}
	return lines
}

// wrongLines returns lines whose reply is what, whatever the desk is.
func wrongLines() []string {
	lines := []string{"", " ", "  ", "   ", "-", "no", "what", "fly", "\t", "\r", "\x00", "\xff", "é", "0", "1", "<", "><", ">><", "2+0", "3,5", "_", "row _", "run _ _", "near _", "windows _", "least _ _", "beats _ _", "meet _", "row R", "goal R", "run N K", "first N", "near N", "windows N", "shape N", "hollow N", "least L M", "beats P N", "meet P", "tick, rest", "tick;rest", "row=<", "run(0,1)"}
	for _, word := range noNumberWords() {
		lines = append(lines, "first "+word, "near "+word, "windows "+word, "shape "+word, "hollow "+word, "run 0 "+word, "run "+word+" 1", "run "+word+" "+word, "run 99 "+word, "beats 2+0 "+word, "beats 2+0,4+1 "+word)
	}
	for _, word := range noRowWords() {
		lines = append(lines, "row "+word, "goal "+word)
	}
	for _, word := range noLists() {
		lines = append(lines, "least "+word+" 2,3,2", "least 3,5,7 "+word, "least "+word+" "+word, "least 0 "+word, "least "+word+" 0")
	}
	for _, word := range noPacesWords() {
		lines = append(lines, "meet "+word, "beats "+word+" 8", "beats "+word+" 999999", "beats "+word+" x")
	}
	return append(lines, otherwiseSpaced()...)
}

// otherwiseSpaced returns lines with a word too many or too few, empty words, and other letters.
func otherwiseSpaced() []string {
	var lines []string
	for _, line := range goodLines() {
		words := strings.Split(line, " ")
		name, rest := words[0], strings.TrimPrefix(line, words[0])
		lines = append(lines, line+" ", " "+line, line+"  ", "  "+line, " "+line+" ", line+" 0", line+" 1", line+" <", line+" "+words[len(words)-1], line+" tick", "0 "+line, line+"\t", "\t"+line, line+"\r", "\r"+line, line+"\x00", "\x00"+line, line+"\v", line+"\u00a0", "\u00a0"+line, line+"\xff", "\xff"+line, line+";", line+".", line+",")
		lines = append(lines, strings.ReplaceAll(line, " ", "  ")+" ", strings.ToUpper(name)+rest, strings.ToUpper(name[:1])+name[1:]+rest, name[:len(name)-1]+strings.ToUpper(name[len(name)-1:])+rest, name[1:]+rest, name[:1]+rest, name+"x"+rest, "x"+name+rest, name+name+rest, "the "+line, "-"+line)
		if name != "ticks" {
			// The name without its last sign is none, or that of a line with more words.
			lines = append(lines, name[:len(name)-1]+rest)
		}
		if len(words) > 1 {
			lines = append(lines, name, name+" ", strings.ReplaceAll(line, " ", "  "), strings.ReplaceAll(line, " ", "\t"), strings.ReplaceAll(line, " ", ""), strings.ReplaceAll(line, " ", ","), strings.ReplaceAll(line, " ", "\u00a0"), name+":"+rest, name+"  "+words[1])
		}
		if len(words) > 2 {
			lines = append(lines, name+" "+words[1], name+" "+words[1]+" ", name+"  "+words[2], name+" "+words[2], name+" "+words[1]+"  "+words[2], name+" "+words[1]+","+words[2])
		}
	}
	return lines
}

func TestConsoleConstants(t *testing.T) {
	if impl.MaxScript != 3000 || impl.MaxLines != 50 {
		t.Error("limits", impl.MaxScript, impl.MaxLines)
	}
}

// Promise 10: the chapter's example.
func TestConsoleExample(t *testing.T) {
	steps := []struct{ line, reply, desk string }{
		{"runs", "0,0 2,3", "<><< >>>>"}, {"firsts", "1,2,4", "<><< >>>>"}, {"windows 2", "no", "<><< >>>>"}, {"nears", "0,2", "<><< >>>>"}, {"near 0", "><<<", "><<< >>>>"}, {"near 2", ">>>>", ">>>> >>>>"}, {"nears", "-", ">>>> >>>>"},
		{"row >><", ">><", ">>< >><"}, {"pairs", "1", ">>< >><"}, {"ticks", "2", ">>< >><"}, {"turns", "2", ">>< >><"}, {"tick", "><>", "><> >><"}, {"before", ">><", "><> >><"}, {"rest", "<>>", "<>> >><"}, {"run 0 1", "><>", "><> >><"}, {"goal <<", "no", "><> >><"}, {"first 9", "no", "><> >><"},
		{"shape 12", "1,12 2,6 3,4", "><> >><"}, {"hollow 32", "6,2 9,1", "><> >><"}, {"least 3,5,7 2,3,2", "23", "><> >><"}, {"beats 2+0,3+1 8", "11102011", "><> >><"}, {"meet 2+0,4+1", "no", "><> >><"}, {"fly", "what", "><> >><"},
	}
	var lines, replies []string
	d := impl.FirstDesk()
	for _, step := range steps {
		checkLine(t, d, step.line, deskOf(step.desk), step.reply)
		d = deskOf(step.desk)
		lines, replies = append(lines, step.line), append(replies, step.reply)
		got, ok := impl.RunScript(scriptOf(lines...))
		checkList(t, "replies", got, ok, replies)
		after, ok := impl.DeskAfter(scriptOf(lines...))
		checkDesk(t, "the desk behind", after, ok, d)
	}
	failed, ok := impl.FailedLines(scriptOf(lines...))
	checkList(t, "failed", failed, ok, []int{3, 16, 17, 22, 23})
}

func TestFirstDesk(t *testing.T) {
	for range 2 {
		d := impl.FirstDesk()
		checkDesk(t, "FirstDesk", d, impl.IsDesk(d), impl.Desk{Row: "<><<", Goal: ">>>>"})
		d.Row = "x"
	}
}

// noDesks returns desks that are none: with rows of different lengths, too long ones, other letters and empty texts.
func noDesks() []impl.Desk {
	desks := []impl.Desk{{}, {Row: "<"}, {Goal: "<"}}
	for _, text := range append(noOrderedRows(), "-", "no", "what", "<><< ", " <><<") {
		good := strings.Repeat("<", min(max(len(text), 1), 40))
		desks = append(desks, impl.Desk{Row: text, Goal: text}, impl.Desk{Row: text, Goal: good}, impl.Desk{Row: good, Goal: text})
	}
	for soldiers := 0; soldiers <= 60; soldiers++ {
		for others := 0; others <= 60; others++ {
			if soldiers != others || soldiers == 0 || soldiers > 40 {
				desks = append(desks, impl.Desk{Row: strings.Repeat("<", soldiers), Goal: strings.Repeat(">", others)})
			}
		}
	}
	return desks
}

func TestIsDesk(t *testing.T) {
	for _, d := range sampleDesks() {
		if !impl.IsDesk(d) {
			t.Errorf("%q is a desk", d)
		}
	}
	for _, row := range orderedRows() {
		if !impl.IsDesk(impl.Desk{Row: row, Goal: row}) || !impl.IsDesk(impl.Desk{Row: row, Goal: strings.Repeat(">", len(row))}) {
			t.Errorf("a desk has the row %q", row)
		}
	}
	for _, d := range noDesks() {
		if impl.IsDesk(d) {
			t.Errorf("%q is no desk", d)
		}
	}
}

// Promise 10: replies that are known, where nothing but them is told of what the lines do.
func TestKnownReplies(t *testing.T) {
	known := []struct{ desk, line, reply string }{
		{"<><< >>>>", "show", "<><<"}, {"<><< >>>>", "aim", ">>>>"}, {"<><< >>>>", "pairs", "1"}, {"<><< >>>>", "ticks", "2"}, {"<><< >>>>", "turns", "2"}, {"<><< >>>>", "before", "><<<"},
		{"< <", "show", "<"}, {"< >", "aim", ">"}, {"< <", "pairs", "-"}, {"< >", "ticks", "0"}, {"> >", "turns", "0"}, {"< >", "before", "<"}, {"> <", "before", ">"},
		{"><>< ><><", "pairs", "0,2"}, {"><>< ><><", "ticks", "2"}, {"><>< ><><", "turns", "3"}, {"<>> ><>", "before", "<>> ><>"}, {"><< <<<", "before", "-"}, {"<<>> ><><", "pairs", "-"}, {"<<>> ><><", "ticks", "0"}, {"<<>> ><><", "turns", "0"},
		{"<<<<<<<<<<<< <<<<<<<<<<<<", "before", "<<<<<<<<<<<<"}, {"<<<<<<<<<<<<< <<<<<<<<<<<<<", "before", "no"},
		{"<><< <><<", "runs", "-"}, {"<><< >><<", "runs", "0,0"}, {"<><< <>>>", "runs", "2,3"}, {"<><< ><>>", "runs", "0,3"}, {"< >", "runs", "0,0"}, {"<<<<< ><><>", "runs", "0,0 2,2 4,4"},
		{"<><< <><<", "firsts", "-"}, {"<><< >><<", "firsts", "1"}, {"<><< ><>>", "firsts", "4"}, {"<><< <>>>", "firsts", "2,4"}, {"< >", "firsts", "1"}, {"> >", "firsts", "-"},
		{"<><< >>>>", "windows 0", "no"}, {"<><< >>>>", "windows 1", "0,2,3"}, {"<><< >>>>", "windows 3", "no"}, {"<><< >>>>", "windows 4", "no"}, {"<><< >>>>", "windows 5", "no"}, {"<><< <><<", "windows 2", "-"}, {"<><< <><<", "windows 5", "no"}, {"<><< <>>>", "windows 2", "2"}, {"<><< ><>>", "windows 4", "0"}, {"<><< ><>>", "windows 2", "0,2"}, {"< >", "windows 1", "0"}, {"< >", "windows 2", "no"},
		{"<><< <><<", "nears", "-"}, {"<><< ><<<", "nears", "0"}, {"< >", "nears", "0"}, {"<< ><", "nears", "no"}, {"<< >>", "nears", "0"}, {"<<<<< >>>>>", "nears", "0,3"}, {"<<<<< ><<<<", "nears", "no"},
		{"< <", "shape 0", "no"}, {"< <", "shape 1", "1,1"}, {"< <", "shape 2", "1,2"}, {"< <", "shape 36", "1,36 2,18 3,12 4,9 6,6"}, {"< <", "shape 999983", "1,999983"}, {"< <", "hollow 0", "no"}, {"< <", "hollow 1", "-"}, {"< <", "hollow 4", "-"}, {"< <", "hollow 8", "3,1"}, {"< <", "hollow 999999", "-"}, {"< <", "hollow 24", "5,2 7,1"},
		{"< <", "least 3 2", "2"}, {"< <", "least 1 0", "0"}, {"< <", "least 3 0", "0"}, {"< <", "least 3 3", "no"}, {"< <", "least 0 0", "no"}, {"< <", "least 1000 999", "999"}, {"< <", "least 1001 0", "no"}, {"< <", "least 999999 999999", "no"}, {"< <", "least 3,5 2", "no"}, {"< <", "least 3 2,3", "no"}, {"< <", "least 2,4 1,2", "no"}, {"< <", "least 2,4 1,3", "3"}, {"< <", "least 1,1,1,1,1,1 0,0,0,0,0,0", "0"}, {"< <", "least 1,1,1,1,1,1,1 0,0,0,0,0,0,0", "no"}, {"< <", "least 7,5,3 2,3,2", "23"},
		{"< <", "beats 1+0 0", "-"}, {"< <", "beats 1+0 1", "1"}, {"< <", "beats 2+1 3", "010"}, {"< <", "beats 1+0 200", strings.Repeat("1", 200)}, {"< <", "beats 1+0 201", "no"}, {"< <", "beats 1+0 999999", "no"}, {"< <", "beats 1+0,1+0,1+0,1+0,1+0,1+0 2", "66"}, {"< <", "beats 1+0,1+0,1+0,1+0,1+0,1+0,1+0 2", "what"}, {"< <", "beats 60+59 60", strings.Repeat("0", 59) + "1"}, {"< <", "beats 2+0,3+1 201", "no"},
		{"< <", "meet 1+0", "0"}, {"< <", "meet 60+59", "59"}, {"< <", "meet 2+0,3+1", "4"}, {"< <", "meet 2+0,2+1", "no"}, {"< <", "meet 1+0,1+0,1+0,1+0,1+0,1+0", "0"}, {"< <", "meet 1+0,1+0,1+0,1+0,1+0,1+0,1+0", "what"},
	}
	for _, k := range known {
		checkLine(t, deskOf(k.desk), k.line, deskOf(k.desk), k.reply)
	}
}

// Promise 10: effects that are known.
func TestKnownEffects(t *testing.T) {
	forty, other := strings.Repeat("<", 40), strings.Repeat("><", 20)
	known := []struct{ desk, line, after, reply string }{
		{"<><< >>>>", "tick", "<<>< >>>>", "<<><"}, {"<><< >>>>", "rest", "<<<> >>>>", "<<<>"}, {"<><< >>>>", "mirror", ">><> >>>>", ">><>"}, {"<<>> ><><", "tick", "<<>> ><><", "<<>>"}, {"<<>> ><><", "rest", "<<>> ><><", "<<>>"}, {"> <", "tick", "> <", ">"}, {"> <", "rest", "> <", ">"}, {"> <", "mirror", "< <", "<"}, {">>< >><", "tick", "><> >><", "><>"}, {">>< >><", "rest", "<>> >><", "<>>"}, {">>< >><", "mirror", "><< >><", "><<"},
		{"<><< >>>>", "row <", "< <", "<"}, {"<><< >>>>", "row >><", ">>< >><", ">><"}, {"<><< >>>>", "row <><<", "<><< <><<", "<><<"}, {"<><< >>>>", "row " + forty, forty + " " + forty, forty}, {forty + " " + other, "row >", "> >", ">"}, {"<><< >>>>", "row " + forty + "<", "<><< >>>>", "what"}, {"<><< >>>>", "row", "<><< >>>>", "what"}, {"<><< >>>>", "row ", "<><< >>>>", "what"},
		{"<><< >>>>", "goal ><><", "<><< ><><", "><><"}, {"<><< >>>>", "goal <><<", "<><< <><<", "<><<"}, {"<><< >>>>", "goal >>>>", "<><< >>>>", ">>>>"}, {"<><< >>>>", "goal >>>", "<><< >>>>", "no"}, {"<><< >>>>", "goal >>>>>", "<><< >>>>", "no"}, {"<><< >>>>", "goal " + forty, "<><< >>>>", "no"}, {"<><< >>>>", "goal " + forty + "<", "<><< >>>>", "what"}, {"<><< >>>>", "goal", "<><< >>>>", "what"}, {"<><< >>>>", "goal ", "<><< >>>>", "what"}, {"< <", "goal >", "< >", ">"}, {"< <", "goal >>", "< <", "no"}, {forty + " " + forty, "goal " + other, forty + " " + other, other}, {forty + " " + forty, "goal " + other[1:], forty + " " + forty, "no"},
		{"<><< >>>>", "run 0 3", "><>> >>>>", "><>>"}, {"<><< >>>>", "run 1 1", "<<<< >>>>", "<<<<"}, {"<><< >>>>", "run 3 3", "<><> >>>>", "<><>"}, {"<><< >>>>", "run 3 2", "<><< >>>>", "no"}, {"<><< >>>>", "run 0 4", "<><< >>>>", "no"}, {"<><< >>>>", "run 4 4", "<><< >>>>", "no"}, {"<><< >>>>", "run 999999 999999", "<><< >>>>", "no"}, {"<><< >>>>", "run 0 1000000", "<><< >>>>", "what"}, {"<><< >>>>", "run 1", "<><< >>>>", "what"}, {"<><< >>>>", "run 1 2 3", "<><< >>>>", "what"}, {"< <", "run 0 0", "> <", ">"},
		{"<><< >>>>", "first 0", "<><< >>>>", "no"}, {"<><< >>>>", "first 1", ">><< >>>>", ">><<"}, {"<><< >>>>", "first 4", "><>> >>>>", "><>>"}, {"<><< >>>>", "first 5", "<><< >>>>", "no"}, {"<><< >>>>", "near 0", "><<< >>>>", "><<<"}, {"<><< >>>>", "near 1", "><>< >>>>", "><><"}, {"<><< >>>>", "near 3", "<>>> >>>>", "<>>>"}, {"<><< >>>>", "near 4", "<><< >>>>", "no"}, {"> >", "near 0", "< >", "<"}, {"> >", "near 1", "> >", "no"}, {forty + " " + other, "first 40", strings.Repeat(">", 40) + " " + other, strings.Repeat(">", 40)}, {forty + " " + other, "near 39", forty[2:] + ">> " + other, forty[2:] + ">>"}, {forty + " " + other, "near 40", forty + " " + other, "no"},
	}
	for _, k := range known {
		checkLine(t, deskOf(k.desk), k.line, deskOf(k.after), k.reply)
	}
}

// Promise 10: lines do what the calls do that they name.
func TestLines(t *testing.T) {
	for _, d := range sampleDesks() {
		for _, line := range sampleLines() {
			checkPlain(t, d, line)
		}
	}
}

func TestLinesOfTwoLists(t *testing.T) {
	for _, columns := range append(goodLists(), noLists()...) {
		for _, left := range goodLists() {
			checkPlain(t, impl.FirstDesk(), "least "+columns+" "+left)
			checkPlain(t, impl.FirstDesk(), "least "+left+" "+columns)
		}
	}
}

// Promise 10: numbers of all sizes have the replies of the calls.
func TestLinesOfAllNumbers(t *testing.T) {
	d := impl.Desk{Row: strings.Repeat("><", 20), Goal: strings.Repeat("<", 40)}
	for number := range 1200 {
		text := strconv.Itoa(number)
		for _, start := range []string{"first ", "near ", "windows ", "shape ", "hollow ", "run 3 ", "beats 2+0,7+3 ", "least 1000,999 5,", "least 7,3 2,"} {
			checkPlain(t, d, start+text)
		}
		checkPlain(t, d, "least 1,"+text+" 0,0")
	}
	for number := 999000; number <= 1001000; number += 7 {
		checkPlain(t, d, "shape "+strconv.Itoa(number))
		checkPlain(t, d, "hollow "+strconv.Itoa(number))
	}
}

// Promise 10: the reply to anything else is what, and changes nothing.
func TestLinesThatAreNone(t *testing.T) {
	lines := wrongLines()
	for _, d := range []impl.Desk{impl.FirstDesk(), {Row: ">", Goal: "<"}, {Row: ">><", Goal: "><<"}, {Row: strings.Repeat("<", 40), Goal: strings.Repeat("><", 20)}} {
		for _, line := range lines {
			checkRefused(t, d, line, "what")
			if _, reply := plainLine(d, line); reply != "what" {
				t.Error("told otherwise", cutShort(line), reply)
			}
		}
	}
}

// A word that is none comes before a call that fails.
func TestWhatComesBeforeNo(t *testing.T) {
	for line, want := range map[string]string{
		"run 9 9": "no", "run 9 9 9": "what", "run 9 x": "what", "run x 9": "what", "first 9": "no", "first 9 9": "what", "near 9": "no", "near 9 ": "what", "goal >": "no", "goal > >": "what", "goal x": "what", "windows 9": "no", "windows 09": "what", "shape 0": "no", "shape 0 0": "what",
		"least 0 0": "no", "least 0 0 0": "what", "least 0 x": "what", "least x 0": "what", "least 0,0,0,0,0,0,0 1": "no", "least 0,0,0,0,0,0,0 1,": "what", "least 3,5 9": "no", "least 3,5 1000000": "what", "beats 2+0 201": "no", "beats 2+2 201": "what", "beats 2+0 1000000": "what", "meet 2+0,2+1": "no", "meet 2+0,2+2": "what", "meet 2+0,2+1 0": "what", "before 0": "what",
	} {
		checkRefused(t, impl.FirstDesk(), line, want)
	}
	d := impl.Desk{Row: strings.Repeat("<", 13), Goal: strings.Repeat(">", 13)}
	checkRefused(t, d, "before", "no")
	checkRefused(t, d, "before ", "what")
}

// One byte more at any place of a line, another one, or one less.
func TestTextsNextToLines(t *testing.T) {
	d := impl.Desk{Row: "><><<", Goal: "<<><>"}
	for _, good := range append(goodLines(), "goal <>>>>") {
		for at := range len(good) + 1 {
			rest := good[min(at+1, len(good)):]
			lines := []string{good[:at] + rest, good[at:] + good[:at], good[:at], good[at:]}
			for code := range 256 {
				if code != '\n' {
					sign := string([]byte{byte(code)})
					lines = append(lines, good[:at]+sign+good[at:], good[:at]+sign+rest)
				}
			}
			for _, line := range lines {
				checkPlain(t, d, line)
			}
		}
	}
}

// Lines of MaxScript bytes are executed, longer ones and those with a newline are none.
func TestLongLines(t *testing.T) {
	for _, d := range []impl.Desk{impl.FirstDesk(), {Row: "<", Goal: ">"}} {
		columns := "least " + strings.Repeat("1,", 746) + "1 "
		exact := columns + strings.Repeat("0,", 749) + "10"
		if len(exact) != 3000 {
			t.Fatal("length", len(exact))
		}
		checkRefused(t, d, exact, "no")
		checkRefused(t, d, exact[:2999], "no")
		checkRefused(t, d, exact[:2998]+"x0", "what")
		checkNoLine(t, d, exact+"0")
		checkNoLine(t, d, exact+" ")
		for _, sign := range []string{" ", "<", "0", "tick ", ",", "\x00", "\xff", "x"} {
			line := strings.Repeat(sign, 3000)[:3000]
			checkRefused(t, d, line, "what")
			checkRefused(t, d, "row "+line[:2996], "what")
			checkRefused(t, d, "shape "+line[:2994], "what")
			checkRefused(t, d, "meet "+line[:2995], "what")
			checkNoLine(t, d, line+sign[:1])
			checkNoLine(t, d, strings.Repeat(sign, 4000))
		}
		for _, line := range append(goodLines(), "") {
			for _, text := range []string{line + "\n", "\n" + line, line + "\n\n", line + "\n" + line, line + "\ntick", "tick\n" + line, line + "\r\n"} {
				checkNoLine(t, d, text)
			}
		}
	}
}

// Promise 11: desks that are none make every line fail, with zero values.
func TestDesksThatAreNone(t *testing.T) {
	for _, d := range noDesks() {
		for _, line := range []string{"show", "aim", "row <", "goal <", "tick", "shape 12", "beats 1+0 1", "", "fly", "near 0\n"} {
			checkNoLine(t, d, line)
		}
	}
	for _, d := range []impl.Desk{{}, {Row: "<><<", Goal: ">>>"}, {Row: "<>", Goal: "<x"}} {
		for _, line := range append(goodLines(), wrongLines()...) {
			checkNoLine(t, d, line)
		}
	}
}

// Promise 10: scripts execute their lines one behind the other.
func TestScripts(t *testing.T) {
	checkScript(t)
	lines := slices.Concat(sampleLines(), goodLines(), wrongLines(), goodLines())
	for _, line := range lines {
		if len(line) < 2900 {
			checkScript(t, line)
			checkScript(t, "row >><<>", line, "show", "aim")
		}
	}
	for step := 1; step < 60; step++ {
		for count := range 51 {
			var some []string
			length := 0
			for k := range count {
				line := lines[(k*step*37+step*step+count)%len(lines)]
				length += len(line) + 1
				if length <= 3000 {
					some = append(some, line)
				}
			}
			checkScript(t, some...)
		}
	}
}

// Promise 10: lines that fail change nothing for those behind them.
func TestLinesBehindLinesThatFail(t *testing.T) {
	wrong := []string{"", "fly", "goal >", "goal x", "row x", "row " + strings.Repeat("<", 41), "run 2 1", "run 0 9", "first 0", "first 9", "near 9", "near 00", "tick 1", "Rest", "mirror ", " mirror", "before x", "windows 2", "shape 0", "hollow 01", "least 2,4 1,2", "beats 1+0 201", "meet 2+0,4+1", "beats 1+0,1+0,1+0,1+0,1+0,1+0,1+0 1"}
	for _, line := range wrong {
		for _, good := range goodLines() {
			want, ok := impl.RunScript(scriptOf(good, "show", "aim", good))
			got, okToo := impl.RunScript(scriptOf(line, good, line, "show", line, line, "aim", line, good, line))
			if !ok || !okToo || len(got) != 10 {
				t.Fatal(line, good, got)
			}
			checkList(t, line+" and "+good, []string{got[1], got[3], got[6], got[8]}, true, want)
			for _, k := range []int{0, 2, 4, 5, 7, 9} {
				if !isRefusal(got[k]) && !strings.HasPrefix(line, "windows") {
					t.Error(line, "behind", good, got[k])
				}
			}
		}
	}
	for count := range 51 {
		s := strings.Repeat("goal <\n", count)
		d, ok := impl.DeskAfter(s)
		checkDesk(t, "DeskAfter", d, ok, impl.FirstDesk())
		failed, ok := impl.FailedLines(s)
		checkInt(t, "FailedLines", len(failed), ok, count)
		for k, number := range failed {
			checkInt(t, "FailedLines", number, true, k+1)
		}
	}
}

func TestKnownScripts(t *testing.T) {
	known := []struct {
		script, replies, desk string
		failed                []int
	}{
		{"", "", "<><< >>>>", nil}, {"\n", "what", "<><< >>>>", []int{1}}, {"\n\n\n", "what|what|what", "<><< >>>>", []int{1, 2, 3}}, {"show\n", "<><<", "<><< >>>>", nil}, {"show\n\naim\n", "<><<|what|>>>>", "<><< >>>>", []int{2}}, {"\nshow\n", "what|<><<", "<><< >>>>", []int{1}}, {"show\n\n", "<><<|what", "<><< >>>>", []int{2}}, {" \n", "what", "<><< >>>>", []int{1}}, {"show \n show\nshow\r\n", "what|what|what", "<><< >>>>", []int{1, 2, 3}},
		{"tick\ntick\ntick\nticks\nturns\npairs\nruns\n", "<<><|<<<>|<<<>|0|0|-|0,2", "<<<> >>>>", nil}, {"goal <<<<\nnear 1\naim\nnears\n", "<<<<|><><|<<<<|1,2,3", "><>< <<<<", nil}, {"row <<\ngoal ><\nnears\nnear 1\nnears\n", "<<|><|no|>>|no", ">> ><", []int{3, 5}}, {"row <\ngoal >\nnear 0\nnears\nfirsts\nwindows 1\nruns\n", "<|>|>|-|-|-|-", "> >", nil}, {"row >><\nrow x\ngoal x\ntick\n", ">><|what|what|><>", "><> >><", []int{2, 3}}, {"row ><\nfirst 3\nfirst 2\nrow >>>\naim\nbeats 3+1 0\nhollow 7\n", "><|no|<>|>>>|>>>|-|-", ">>> >>>", []int{2}}, {"rest\nbefore\nmirror\nbefore\n", "<<<>|<<<> <<><|<>>>|<>>> ><>>", "<>>> >>>>", nil},
	}
	for _, k := range known {
		var want []string
		if k.script != "" {
			want = strings.Split(k.replies, "|")
		}
		replies, ok := impl.RunScript(k.script)
		checkList(t, "RunScript "+cutShort(k.script), replies, ok, want)
		d, ok := impl.DeskAfter(k.script)
		checkDesk(t, "DeskAfter "+cutShort(k.script), d, ok, deskOf(k.desk))
		failed, ok := impl.FailedLines(k.script)
		checkList(t, "FailedLines "+cutShort(k.script), failed, ok, k.failed)
	}
}

// Scripts have at most MaxLines lines, and at most MaxScript bytes.
func TestLimitsOfScripts(t *testing.T) {
	for count := range 60 {
		for _, line := range []string{"show", "", "fly", "near 1", "row <", "goal <"} {
			if count <= 50 {
				checkScript(t, slices.Repeat([]string{line}, count)...)
			} else {
				checkNoScript(t, strings.Repeat(line+"\n", count))
			}
		}
	}
	for _, count := range []int{1, 2, 3, 25, 49, 50} {
		for _, length := range []int{2998, 2999, 3000, 3001, 3002, 4000, 6000} {
			// The last line makes the script as long as it is to be.
			lines := append(slices.Repeat([]string{"tick"}, count-1), "")
			for _, sign := range []string{" ", "x", "<", "\xff"} {
				lines[count-1] = strings.Repeat(sign, length-5*(count-1)-1)
				s := scriptOf(lines...)
				if len(s) != length {
					t.Fatal("length", len(s))
				}
				if length <= 3000 {
					checkScript(t, lines...)
				} else {
					checkNoScript(t, s)
				}
			}
		}
	}
	checkNoScript(t, strings.Repeat("\n", 51))
	checkNoScript(t, strings.Repeat("\n", 3000))
	checkNoScript(t, strings.Repeat("\n", 3001))
	checkNoScript(t, strings.Repeat("x", 3000))
	checkNoScript(t, strings.Repeat("show\n", 100000))
}

// A last line has to have a newline behind it too.
func TestTextsThatAreNoScripts(t *testing.T) {
	for _, line := range slices.Concat(goodLines(), wrongLines()) {
		if line == "" {
			continue
		}
		checkNoScript(t, line)
		checkNoScript(t, "show\n"+line)
		checkNoScript(t, "\n"+line)
		checkNoScript(t, line+"\n"+line)
		checkNoScript(t, line+"\r")
		checkNoScript(t, strings.Repeat("show\n", 50)+line)
		checkNoScript(t, strings.Repeat("show\n", 49)+line)
	}
	checkNoScript(t, " ")
	checkNoScript(t, "show\n ")
	checkNoScript(t, "show\n\x00")
	checkNoScript(t, "show\u2028")
	checkNoScript(t, "show\u0085")
}

// Promise 11: results are new memory, and no state is kept from call to call.
func TestConsoleResultsAreNew(t *testing.T) {
	s := scriptOf("tick", "fly", "near 9", "show", "aim", "row ><", "show")
	for range 3 {
		replies, ok := impl.RunScript(s)
		checkList(t, "RunScript", replies, ok, []string{"<<><", "what", "no", "<<><", ">>>>", "><", "><"})
		clear(replies[:cap(replies)])
		failed, ok := impl.FailedLines(s)
		checkList(t, "FailedLines", failed, ok, []int{2, 3})
		clear(failed[:cap(failed)])
		d, ok := impl.DeskAfter(s)
		checkDesk(t, "DeskAfter", d, ok, deskOf(">< ><"))
		d = impl.FirstDesk()
		impl.DeskLine(d, "near 0")
		impl.DeskLine(d, "row <")
		impl.DeskLine(d, "goal <<<<")
		checkDesk(t, "the argument", d, true, deskOf("<><< >>>>"))
		checkLine(t, d, "show", d, "<><<")
	}
}

func TestScriptsAtOneTime(t *testing.T) {
	s := scriptOf(goodLines()...)
	checkAtOneTime(t, func() string {
		replies, _ := impl.RunScript(s)
		d, _ := impl.DeskAfter(s)
		failed, _ := impl.FailedLines(s)
		return fmt.Sprintf("%q %q %v", replies, d, failed)
	})
}

// Promise 11: texts of whatever size are accepted.
func TestConsoleTextsOfAllSizes(t *testing.T) {
	texts := slices.Concat(noRows(), noOrderedRows(), noWords(), noFacings(), noPacesTexts(), noFilesTexts(), noSignalTexts(), noPuzzleTexts())
	for _, text := range texts {
		for _, line := range []string{text, "row " + text, "goal " + text, "run " + text, "run 1 " + text, "shape " + text, "least " + text + " " + text, "beats " + text + " " + text, "meet " + text} {
			d := impl.FirstDesk()
			if len(line) <= 3000 && !strings.Contains(line, "\n") {
				checkPlain(t, d, line)
				checkScript(t, line[:min(len(line), 2999)])
			} else {
				checkNoLine(t, d, line)
			}
			if len(line) > 3000 {
				checkNoScript(t, line)
				checkNoScript(t, line+"\n")
			}
			if text != "" && !strings.HasSuffix(line, "\n") {
				checkNoScript(t, line)
			}
			impl.IsDesk(impl.Desk{Row: text, Goal: line})
		}
	}
}
