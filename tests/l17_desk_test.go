package tests

import (
	"fmt"
	"slices"
	"strconv"
	"strings"
	"sync"
	"testing"

	"loop.example/g00096/impl"
)

// deskForms has the lines of chapter 18 that are no Event's text, in its own words.
var deskForms = []string{
	"order NAME NAME N NAME N", "send NAME NAME N N N", "get NAME NAME N N N", "cut NAME NAME N N N",
	"stock", "lines", "diffs", "out", "hand NAME", "rate NAME", "plan NAME NAME NAME N N",
}

// deskNumber: is it told as a number from 0 to MaxStock is?
func deskNumber(word string) bool {
	n, err := strconv.ParseUint(word, 10, 64)
	return err == nil && n <= 1000000000 && strconv.FormatUint(n, 10) == word
}

// wordsFit holds the words of a line to those of a form.
func wordsFit(line string, form string) bool {
	return slices.EqualFunc(strings.Split(line, " "), strings.Split(form, " "), func(word string, asked string) bool {
		switch asked {
		case "NAME":
			return plainName(word)
		case "N":
			return deskNumber(word)
		}
		return word == asked
	})
}

// deskLinePlainly: is it a line of the table, without its line feed?
func deskLinePlainly(line string) bool {
	_, is := lineReadPlainly(line + "\n")
	return is || slices.ContainsFunc(deskForms, func(form string) bool { return wordsFit(line, form) })
}

// deskTakenPlainly takes a text, and tells code and answer.
func deskTakenPlainly(g impl.Gate, text string) (impl.Gate, string) {
	out := takenPlainly(g, text)
	return out.Gate, fmt.Sprintf("code %d answer %d\n", out.Code, out.Answer)
}

// parcelOfLine tells the text that a line of order, send, get or cut has taken, and whether it is one.
func parcelOfLine(line string) (string, bool) {
	words := strings.Split(line, " ")
	kind := slices.Index([]string{"order", "cut", "send", "get"}, words[0]) + 1
	if kind == 0 {
		return "", false
	}
	only := impl.Line{No: 1, Item: words[4], Qty: numberRead(words[5])}
	paper := impl.Paper{Kind: 1, Ref: words[2]}
	if kind > 1 {
		only = impl.Line{No: numberRead(words[4]), Qty: numberRead(words[5])}
		paper = impl.Paper{Kind: int64(kind), Ref: "X", Other: words[2]}
	}
	paper.Lines = []impl.Line{only}
	p := impl.Parcel{From: words[1], To: "DOCK", Number: numberRead(words[3]), Papers: []impl.Paper{paper}}
	if !parcelPlainly(p) {
		return "", true
	}
	return parcelTextPlainly(usual, p), true
}

// deskToldPlainly does a line of the table, and tells what it tells.
func deskToldPlainly(g impl.Gate, line string) (impl.Gate, string) {
	if text, is := parcelOfLine(line); is {
		return deskTakenPlainly(g, text)
	}
	if e, is := lineReadPlainly(line + "\n"); is && e.Kind == 3 {
		return deskTakenPlainly(g, e.A)
	} else if is {
		behind, code := stepPlainly(g, e)
		return behind, fmt.Sprintf("code %d\n", code)
	}
	words := strings.Split(line, " ")
	switch words[0] {
	case "stock":
		return g, stockTextPlainly(g.Book)
	case "lines":
		return g, linesTextPlainly(g.Book, "")
	case "diffs":
		return g, diffsTextPlainly(g.Diffs)
	case "out":
		return g, outboxTextPlainly(g.Outbox)
	case "hand":
		return g, fmt.Sprintf("hand %d\n", handPlainly(g.Book, words[1]))
	case "rate":
		return g, fmt.Sprintf("rate %d\n", ratePlainly(g.Book, words[1]))
	}
	out, sum := planPlainly(g, []impl.Rule{{Item: words[3], Low: numberRead(words[4]), Up: numberRead(words[5])}}, words[1], words[2]), int64(0)
	for _, l := range out.Paper.Lines {
		sum += l.Qty
	}
	return g, fmt.Sprintf("code %d sum %d\n", out.Code, sum)
}

// deskFaultPlainly looks at line by line.
func deskFaultPlainly(text string) impl.DeskOut {
	if len(text) > 20000 {
		return impl.DeskOut{Code: 2}
	}
	at := int64(0)
	for line := range strings.Lines(text) {
		line, ended := strings.CutSuffix(line, "\n")
		if at == 100 || !ended || !deskLinePlainly(line) {
			return impl.DeskOut{Line: at, Code: 3}
		}
		at++
	}
	return impl.DeskOut{}
}

func deskPlainly(text string) impl.DeskOut {
	if fault := deskFaultPlainly(text); fault.Code != 0 {
		return fault
	}
	out, g := impl.DeskOut{}, impl.Gate{Name: "DOCK"}
	for line := range strings.Lines(text) {
		behind, told := deskToldPlainly(g, strings.TrimSuffix(line, "\n"))
		g, out.Text = behind, out.Text+told
	}
	return out
}

func sameDesk(t *testing.T, what string, got impl.DeskOut, want impl.DeskOut) {
	t.Helper()
	sameText(t, what, got.Text, want.Text)
	if got.Line != want.Line || got.Code != want.Code {
		t.Errorf("%s: got code %d at line %d, want code %d at line %d", what, got.Code, got.Line, want.Code, want.Line)
	}
}

// checkFault holds what is said of a text to the plain telling, without doing its lines twice.
func checkFault(t *testing.T, text string) impl.DeskOut {
	t.Helper()
	fault, want := impl.DeskFault(text), deskFaultPlainly(text)
	sameDesk(t, "fault", fault, want)
	if fault.Code != impl.OK {
		sameDesk(t, "nothing beside a fault", impl.DeskRun(text), want)
	}
	if t.Failed() {
		t.Fatalf("of %q", text[:min(len(text), 600)])
	}
	return fault
}

// checkDesk holds what a desk tells to the plain telling.
func checkDesk(t *testing.T, text string) impl.DeskOut {
	t.Helper()
	checkFault(t, text)
	out := impl.DeskRun(text)
	sameDesk(t, "run", out, deskPlainly(text))
	if t.Failed() {
		t.Fatalf("of %q", text[:min(len(text), 600)])
	}
	return out
}

// toldByLine gives what each line of a right text tells: what the lines up to it tell more than those ahead.
func toldByLine(t *testing.T, text string) []string {
	t.Helper()
	var all []string
	ahead, told := "", ""
	for line := range strings.Lines(text) {
		ahead += line
		out := impl.DeskRun(ahead)
		rest, begins := strings.CutPrefix(out.Text, told)
		same(t, "27: told as far as without the line", begins && out.Code == impl.OK, true)
		all, told = append(all, rest), out.Text
	}
	sameText(t, "27: all lines, one by one", impl.DeskRun(text).Text, strings.Join(all, ""))
	return all
}

// asksOnly: does the line change nothing?
func asksOnly(line string) bool {
	word, _, _ := strings.Cut(strings.TrimSuffix(line, "\n"), " ")
	return slices.Contains([]string{"stock", "lines", "diffs", "out", "hand", "rate", "plan"}, word)
}

// checkOneByOne is promise 27 of the lines of a right text: each tells its own, those that only ask change
// nothing, and those that take a paper are takes of its text.
func checkOneByOne(t *testing.T, text string) {
	t.Helper()
	told := toldByLine(t, text)
	takes, done, toldOfDone, at := "", "", "", 0
	for line := range strings.Lines(text) {
		if parcel, is := parcelOfLine(strings.TrimSuffix(line, "\n")); is {
			takes += impl.EventsText([]impl.Event{taking(parcel)})
		} else {
			takes += line
		}
		if !asksOnly(line) {
			done, toldOfDone = done+line, toldOfDone+told[at]
		}
		at++
	}
	same(t, "lines", len(told), at)
	sameDesk(t, "27: asking changes nothing", impl.DeskRun(done), impl.DeskOut{Text: toldOfDone})
	if len(takes) <= impl.MaxBytes {
		sameDesk(t, "27: papers are takes of their texts", impl.DeskRun(takes), impl.DeskOut{Text: strings.Join(told, "")})
	}
	if t.Failed() {
		t.Fatalf("of %q", text[:min(len(text), 600)])
	}
}

// askAll has lines that ask for all that a gate has, but for its day.
const askAll = "stock\nlines\ndiffs\nout\n"

// checkTyped is promise 27 of Events: typed at a desk, they come to the codes and to the gate of a run.
func checkTyped(t *testing.T, list []impl.Event) {
	t.Helper()
	text, run := impl.EventsText(list), impl.EventsRun("DOCK", list)
	same(t, "run", run.Code, int64(impl.OK))
	told := toldByLine(t, text)
	same(t, "a line each", len(told), len(list))
	for at, e := range list {
		if e.Kind != impl.EventTake {
			sameText(t, "27: the code of the run", told[at], "code "+number(run.Codes[at])+"\n")
			continue
		}
		answer := impl.GateTake(impl.EventsRun("DOCK", list[:at]).Gate, e.A).Answer
		sameText(t, "27: the code and the answer of the run", told[at], "code "+number(run.Codes[at])+" answer "+number(answer)+"\n")
	}
	_, report, _ := strings.Cut(impl.GateText(run.Gate), "\n")
	sameText(t, "27: the gate of the run", impl.DeskRun(text+askAll).Text, strings.Join(told, "")+report)
	if t.Failed() {
		t.Fatalf("of %s", short(list))
	}
}

// linesBy gives a text of these lines.
func linesBy(lines ...string) string {
	text := ""
	for _, line := range lines {
		text += line + "\n"
	}
	return text
}

// deskPair is a line, and what it tells.
type deskPair struct{ line, told string }

// checkPairs holds a desk to what each line is to tell.
func checkPairs(t *testing.T, pairs ...deskPair) {
	t.Helper()
	text, told := "", ""
	for _, p := range pairs {
		text, told = text+p.line+"\n", told+p.told
	}
	sameText(t, "told", checkDesk(t, text).Text, told)
	checkOneByOne(t, text)
}

func TestASampleDesk(t *testing.T) {
	checkPairs(t,
		deskPair{"stock", ""}, deskPair{"lines", ""}, deskPair{"diffs", ""}, deskPair{"out", ""}, deskPair{"hand BOLT", "hand 0\n"}, deskPair{"rate ACME", "rate -1\n"},
		deskPair{"order ACME PO-1 1 X1 5", "code 9 answer 0\n"}, deskPair{"partner ACME", "code 0\n"}, deskPair{"partner ACME", "code 11\n"}, deskPair{"cross ACME X1 BOLT", "code 0\n"},
		deskPair{"plan ACME PO-1 BOLT 6 10", "code 0 sum 10\n"}, deskPair{"order ACME PO-1 1 X1 5", "code 0 answer 1\n"}, deskPair{"plan ACME PO-1 BOLT 6 10", "code 11 sum 0\n"},
		deskPair{"plan ACME PO-2 BOLT 6 10", "code 0 sum 5\n"}, deskPair{"plan ACME PO-2 BOLT 5 10", "code 6 sum 0\n"}, deskPair{"order ACME PO-1 2 X1 5", "code 11 answer 2\n"},
		deskPair{"lines", "ACME PO-1 1 BOLT ordered 5 sent 0 got 0 cut 0\n"}, deskPair{"stock", "BOLT hand 0 ordered 5 transit 0\n"}, deskPair{"out", "ACME 1 0 0\nACME 2 0 0\n"},
		deskPair{"next", "code 0\n"}, deskPair{"send ACME PO-1 3 1 4", "code 0 answer 3\n"}, deskPair{"out", "ACME 1 1 3\nACME 2 1 3\nACME 3 0 1\n"},
		deskPair{"get ACME PO-1 4 1 9", "code 0 answer 4\n"}, deskPair{"cut ACME PO-1 5 1 3", "code 0 answer 5\n"}, deskPair{"cut ACME PO-1 6 2 3", "code 6 answer 6\n"},
		deskPair{"diffs", "3 ACME PO-1 1 BOLT 5\n1 ACME PO-1 1 BOLT 2\n"}, deskPair{"hand BOLT", "hand 4\n"}, deskPair{"hand X1", "hand 0\n"}, deskPair{"rate ACME", "rate 80\n"},
		deskPair{"lines", ""}, deskPair{"stock", "BOLT hand 4 ordered 0 transit 0\n"}, deskPair{"take -", "code 4 answer 0\n"}, deskPair{"get ACME PO-1 4 1 9", "code 0 answer 4\n"},
		deskPair{"order ACME PO-2 40 NUT 1", "code 0 answer 7\n"}, deskPair{"order ACME PO-3 8 NUT 1", "code 8 answer 0\n"}, deskPair{"rate ACME", "rate 66\n"},
		deskPair{"stock", "BOLT hand 4 ordered 0 transit 0\nNUT hand 0 ordered 1 transit 0\n"},
	)
	sameDesk(t, "nothing", checkDesk(t, ""), impl.DeskOut{})
}

var allDeskWords = []string{"cross", "cut", "diffs", "get", "hand", "lines", "next", "order", "out", "partner", "plan", "rate", "send", "stock", "take"}

func TestDeskWords(t *testing.T) {
	words := impl.DeskWords()
	same(t, "words", words, allDeskWords)
	clear(words)
	_ = append(words[:0], "x")
	same(t, "nothing is kept", impl.DeskWords(), allDeskWords)
	starts := map[string]bool{}
	for _, line := range append([]string{"partner A", "cross A B C", "take -", "next"}, deskForms...) {
		line = strings.NewReplacer("NAME", "A", "N", "1").Replace(line)
		same(t, line, checkDesk(t, line+"\n").Code, int64(impl.OK))
		word, _, _ := strings.Cut(line, " ")
		starts[word] = true
	}
	same(t, "each begins a line", len(starts), len(allDeskWords))
	for _, word := range allDeskWords {
		same(t, word, starts[word], true)
	}
}

// Every line of up to six words, of those with which lines begin and of others.
func TestEveryShortLineOfADesk(t *testing.T) {
	words, rights := []string{"A", "B-1", "0", "12", "", "x", "-"}, 0
	var walk func(line string, deep int)
	walk = func(line string, deep int) {
		if checkFault(t, line+"\n").Code == impl.OK {
			checkDesk(t, line+"\n")
			rights++
		}
		if deep > 0 {
			for _, word := range words {
				walk(line+" "+word, deep-1)
			}
		}
	}
	for _, word := range append([]string{"", "A", "Order", "orders", "stoc"}, allDeskWords...) {
		walk(word, 5)
	}
	// Those of Events; four of two names and three numbers or the other way round; a plan; four of one word;
	// two of one name.
	same(t, "rights", rights, 2+2*2*2+2+1+4*32+32+4+2+2)
	for _, form := range deskForms {
		line := strings.NewReplacer("NAME", "A", "N", "1").Replace(form)
		for _, wrong := range []string{line, " " + line + "\n", line + " \n", line + " A\n", line + " 1\n", strings.ToUpper(line) + "\n", "\t" + line + "\n", line + "\r\n", line + "\x00\n", "x" + line + "\n"} {
			sameDesk(t, wrong, checkFault(t, wrong), impl.DeskOut{Code: impl.ErrSyntax})
		}
		for at := range line {
			if line[at] == ' ' {
				for _, blank := range []string{"", "  ", "\t", "\n", "-", "\u00a0", " \u200b"} {
					sameDesk(t, line, checkFault(t, line[:at]+blank+line[at+1:]+"\n"), deskFaultPlainly(line[:at]+blank+line[at+1:]+"\n"))
				}
			}
		}
	}
}

// replaceWord gives a form as a line, with a word in the place of one of its words.
func replaceWord(form string, at int, word string) string {
	words := strings.Split(form, " ")
	for place := range words {
		switch {
		case place == at:
			words[place] = word
		case words[place] == "NAME":
			words[place] = "ACME"
		case words[place] == "N":
			words[place] = "1"
		}
	}
	return strings.Join(words, " ")
}

// Each number of each line at the edges of what it may be, and beyond; each name likewise.
func TestEdgesOfWordsOfADesk(t *testing.T) {
	numbers := []string{"0", "1", "2", "999", "1000", "999999", "1000000", "1000001", "999999999", "1000000000"}
	wrong := []string{"1000000001", "4294967297", "9223372036854775807", "9223372036854775808", "18446744073709551617", strings.Repeat("9", 40), "00", "01", "-1", "-0", "+1", "1.", "1.0", "0x1", "1e3", "1_0", "١", "１", "a", "A", "", "-", "NaN"}
	names := []string{"A", "A-", "Z9", "ABCDEFGHIJKL", "DOCK", "ACME", "ORDER"}
	ahead, behind := linesBy("partner ACME", "order ACME ACME 7 ACME 5", "send ACME ACME 8 1 3"), askAll+"hand ACME\nrate ACME\n"
	for _, form := range deskForms {
		for at, asked := range strings.Split(form, " ") {
			right, not := names, wrongNames
			if asked == "N" {
				right, not = numbers, append(wrong, wrongNames...)
			} else if asked != "NAME" {
				right, not = nil, append(names, wrongNames...)
			}
			for _, word := range right {
				text := ahead + replaceWord(form, at, word) + "\n" + behind
				same(t, word, checkDesk(t, text).Code, int64(impl.OK))
				checkOneByOne(t, text)
			}
			for _, word := range not {
				if len(word) > impl.MaxBytes {
					sameDesk(t, "too long", checkFault(t, ahead+replaceWord(form, at, word)+"\n"+behind), impl.DeskOut{Code: impl.ErrSize})
					continue
				}
				sameDesk(t, word, checkFault(t, ahead+replaceWord(form, at, word)+"\n"+behind), impl.DeskOut{Line: 3, Code: impl.ErrSyntax})
			}
		}
	}
}

// Where a Parcel or a Paper is not right, the empty text is taken: that is short, and changes nothing.
func TestPapersOfADeskThatAreNotRight(t *testing.T) {
	const empty, taken, none = "code 4 answer 0\n", "code 0 answer 1\n", "code 6 answer 1\n"
	for _, c := range []deskPair{
		{"order ACME PO-1 0 BOLT 5", empty}, {"order ACME PO-1 1 BOLT 5", taken}, {"order ACME PO-1 999999 BOLT 5", taken}, {"order ACME PO-1 1000000 BOLT 5", empty},
		{"order ACME PO-1 1000000000 BOLT 5", empty}, {"order ACME PO-1 1 BOLT 0", empty}, {"order ACME PO-1 1 BOLT 1", taken}, {"order ACME PO-1 1 BOLT 1000000", taken},
		{"order ACME PO-1 1 BOLT 1000001", empty}, {"order C-1 PO-1 1 BOLT 0", empty}, {"order C-1 PO-1 1 BOLT 1", "code 9 answer 0\n"}, {"order DOCK PO-1 1 BOLT 1", "code 9 answer 0\n"},
		{"send ACME PO-1 0 1 5", empty}, {"send ACME PO-1 1 0 5", empty}, {"send ACME PO-1 1 1 0", empty}, {"send ACME PO-1 1 1 1", none}, {"send ACME PO-1 1 999 1000000", none},
		{"send ACME PO-1 1 1000 1", empty}, {"get ACME PO-1 1 1 1000001", empty}, {"get ACME PO-1 1000000 1 1", empty}, {"get ACME PO-1 999999 999 1", none}, {"get ACME X 1 1 1", none},
		{"cut ACME PO-1 1 1 1", none}, {"cut ACME PO-1 1 0 1", empty}, {"cut ACME PO-1 1 1 1000000000", empty}, {"cut C-1 PO-1 1 1 1", "code 9 answer 0\n"},
	} {
		checkPairs(t, deskPair{"partner ACME", "code 0\n"}, c)
		if c.told == empty {
			// The number is free still, and nothing is in any list.
			checkPairs(t, deskPair{"partner ACME", "code 0\n"}, c, deskPair{"stock", ""}, deskPair{"lines", ""}, deskPair{"diffs", ""}, deskPair{"out", ""}, deskPair{"order ACME PO-1 1 BOLT 5", taken})
		}
	}
	// A Partner may have the gate's own name.
	checkPairs(t, deskPair{"partner DOCK", "code 0\n"}, deskPair{"order DOCK DOCK 1 DOCK 5", taken}, deskPair{"lines", "DOCK DOCK 1 DOCK ordered 5 sent 0 got 0 cut 0\n"}, deskPair{"out", "DOCK 1 0 0\n"})
}

// Each of the three posts to the order's line that it names; what is over is a difference of its kind.
func TestPostingsOfADesk(t *testing.T) {
	for _, c := range []struct{ word, line, diffs, hand string }{
		{"send", "ACME PO-1 1 BOLT ordered 9 sent 8 got 5 cut 0\n", "", "5"}, {"get", "ACME PO-1 1 BOLT ordered 9 sent 7 got 6 cut 0\n", "", "6"}, {"cut", "ACME PO-1 1 BOLT ordered 9 sent 7 got 5 cut 1\n", "", "5"},
	} {
		ahead := []deskPair{{"partner ACME", "code 0\n"}, {"order ACME PO-1 1 BOLT 9", "code 0 answer 1\n"}, {"send ACME PO-1 2 1 7", "code 0 answer 2\n"}, {"get ACME PO-1 3 1 5", "code 0 answer 3\n"}}
		checkPairs(t, append(ahead, deskPair{c.word + " ACME PO-1 4 1 1", "code 0 answer 4\n"}, deskPair{"lines", c.line}, deskPair{"diffs", ""}, deskPair{"hand BOLT", "hand " + c.hand + "\n"})...)
		kind := map[string]string{"cut": "1", "send": "2", "get": "3"}[c.word]
		checkPairs(t, append(ahead, deskPair{c.word + " ACME PO-1 4 1 1000000", "code 0 answer 4\n"}, deskPair{"diffs", kind + " ACME PO-1 1 BOLT 999998\n"})...)
	}
}

func TestPlansOfADesk(t *testing.T) {
	ahead := []deskPair{
		{"partner ACME", "code 0\n"}, {"partner C-1", "code 0\n"}, {"cross ACME X1 BOLT", "code 0\n"}, {"order ACME PO-1 1 X1 9", "code 0 answer 1\n"}, {"send ACME PO-1 2 1 7", "code 0 answer 2\n"},
		{"get ACME PO-1 3 1 5", "code 0 answer 3\n"}, {"next", "code 0\n"},
	}
	for _, c := range []deskPair{
		{"plan ACME PO-2 BOLT 10 10", "code 0 sum 1\n"}, {"plan ACME PO-2 BOLT 9 10", "code 6 sum 0\n"}, {"plan ACME PO-2 BOLT 10 1000000", "code 0 sum 999991\n"}, {"plan C-1 PO-1 BOLT 10 30", "code 0 sum 21\n"},
		{"plan ACME PO-2 NUT 1 1000000", "code 0 sum 1000000\n"}, {"plan ACME PO-2 NUT 0 1000000", "code 6 sum 0\n"}, {"plan ACME PO-2 NUT 0 0", "code 6 sum 0\n"}, {"plan ACME PO-2 NUT 1 1000001", "code 1 sum 0\n"},
		{"plan ACME PO-2 NUT 2 1", "code 1 sum 0\n"}, {"plan ACME PO-2 NUT 1000000000 1000000000", "code 1 sum 0\n"}, {"plan ACME PO-1 NUT 1 5", "code 11 sum 0\n"}, {"plan XYZ PO-1 NUT 1 5", "code 9 sum 0\n"},
		{"plan XYZ PO-1 NUT 5 1", "code 1 sum 0\n"}, {"plan ACME PO-1 NUT 0 5", "code 11 sum 0\n"}, {"plan ACME PO-2 X1 10 10", "code 0 sum 10\n"},
	} {
		// Asked again, it tells the same: nothing is ordered by a plan.
		checkPairs(t, append(ahead, c, c, deskPair{"stock", "BOLT hand 5 ordered 2 transit 2\n"}, c, deskPair{"diffs", ""}, deskPair{"rate ACME", "rate 55\n"})...)
	}
}

// deskLines are lines that hang on those ahead of them, of all words.
func deskLines() []string {
	return []string{
		"partner ACME", "cross ACME X1 BOLT", "next", "order ACME PO-1 1 X1 5", "send ACME PO-1 2 1 7", "get ACME PO-1 34 1 3", "cut ACME PO-1 2 1 2", "order ACME PO-2 3 X1 0",
		"take " + impl.Hex(sending("ACME", 2, "heard A1: 0 1")), "stock", "plan ACME PO-2 BOLT 6 10",
	}
}

// Promise 27, over every desk of up to three of them.
func TestEveryShortDesk(t *testing.T) {
	codes := map[string]int{}
	var walk func(text string, deep int)
	walk = func(text string, deep int) {
		checkOneByOne(t, text+askAll)
		for _, row := range rowsOf(t, checkDesk(t, text+askAll).Text) {
			codes[strings.Join(row[:2], " ")]++
		}
		if deep > 0 {
			for _, line := range deskLines() {
				walk(text+line+"\n", deep-1)
			}
		}
	}
	walk("", 3)
	for _, code := range []int64{impl.OK, impl.ErrShort, impl.ErrNone, impl.ErrStale, impl.ErrPartner, impl.ErrThere} {
		same(t, "met the code "+number(code), codes["code "+number(code)] > 3, true)
	}
}

// Promise 27 of Events: over every journal of up to three, and over long ones of 60.
func TestEventsTypedAtADesk(t *testing.T) {
	steps := journalSteps()
	var walk func(list []impl.Event, deep int)
	walk = func(list []impl.Event, deep int) {
		checkTyped(t, list)
		if deep > 0 {
			for _, e := range steps {
				walk(append(slices.Clone(list), e), deep-1)
			}
		}
	}
	walk(nil, 3)
	checkTyped(t, sampleJournal())
	for seed := range 6 {
		checkTyped(t, longJournal(60, seed*97))
	}
}

// A desk has more lines than a journal has Events: those beyond go on as if they stood in one.
func TestMoreEventsThanAJournalHas(t *testing.T) {
	lines := []string{"partner ACME"}
	for n := range 99 {
		lines = append(lines, []string{"next", "partner P" + number(int64(n)), "cross ACME X" + number(int64(n)) + " BOLT", "take -", "take 5359"}[n%5])
	}
	for _, n := range []int{59, 60, 61, 62, 99, 100} {
		text := linesBy(lines[:n]...)
		same(t, "a line each", strings.Count(checkDesk(t, text).Text, "\n"), n)
		same(t, "a journal", impl.EventsRead(text).Code == impl.OK, n <= 60)
	}
	told := toldByLine(t, linesBy(lines...))
	same(t, "the last partner", told[92], "code 0\n")
	same(t, "the one too many", told[97], "code 12\n")
	same(t, "the last take", told[99], "code 4 answer 0\n")
	days := checkDesk(t, "partner ACME\norder ACME PO-1 1 BOLT 5\n"+strings.Repeat("next\n", 97)+"out\n").Text
	sameText(t, "lost by then", days, "code 0\ncode 0 answer 1\n"+strings.Repeat("code 0\n", 97))
}

// An answer that nobody hears is sent on the days 0, 3, 9, 18 and 30, and lost on 45.
func TestDaysOfADesk(t *testing.T) {
	for n := range 50 {
		text := "partner ACME\norder ACME PO-1 1 BOLT 5\n" + strings.Repeat("next\n", n) + "out\n"
		want := ""
		for at, from := range []int{0, 1, 4, 10, 19, 31} {
			if n >= from {
				want = "ACME 1 " + number(int64(at)) + " " + number([]int64{0, 3, 9, 18, 30, 45}[at]) + "\n"
			}
		}
		if n > 45 {
			want = ""
		}
		told := toldByLine(t, text)
		sameText(t, number(int64(n)), told[len(told)-1], want)
		checkDesk(t, text)
	}
}

// What stands one byte away from a right text is another one, or is refused.
func TestTextsOneByteAwayFromADesk(t *testing.T) {
	text := linesBy("partner A", "order A B 1 C 5", "send A B 2 1 7", "take 5a", "hand C", "plan A D C 9 10", "out")
	codes := map[int64]int{}
	check := func(changed string) {
		codes[checkFault(t, changed).Code]++
		if impl.DeskFault(changed).Code == impl.OK {
			checkDesk(t, changed)
		}
	}
	eachByteAway(text, check)
	same(t, "done", codes[impl.OK] > 1000, true)
	same(t, "refused", codes[impl.ErrSyntax] > 10000, true)
}

// The first line that is none is told, whatever stands behind it; 100 lines are the most.
func TestTheFirstWrongLineOfADesk(t *testing.T) {
	for n := range 103 {
		for _, line := range []string{"next\n", "stock\n", "hand A\n", "order A B 1 C 5\n"} {
			lines, want := strings.Repeat(line, n), impl.DeskOut{}
			if n > 100 {
				want = impl.DeskOut{Line: 100, Code: impl.ErrSyntax}
			}
			sameDesk(t, "all right", checkFault(t, lines), want)
			wrong := impl.DeskOut{Line: int64(min(n, 100)), Code: impl.ErrSyntax}
			for _, rest := range []string{"next", "stock", "x", "\n", " ", "\x00", "\nnext\n", "next \n", " stock\n", "stock\r\n", "Next\nnext", "hand\n", "hand \n", "hand a\n", "out 1\n", "order A B 1 C\n", "plan A", "take\n"} {
				sameDesk(t, rest, checkFault(t, lines+rest), wrong)
			}
			for _, rest := range []string{"x\n", "\n", "next \n"} {
				sameDesk(t, "the first of several", checkFault(t, lines+rest+rest+lines+"next"), wrong)
			}
		}
	}
	sameDesk(t, "the most", checkDesk(t, strings.Repeat("next\n", 100)), impl.DeskOut{Text: strings.Repeat("code 0\n", 100)})
	for _, c := range []struct {
		text string
		want impl.DeskOut
	}{
		{strings.Repeat("\n", 20000), impl.DeskOut{Code: impl.ErrSyntax}}, {strings.Repeat("\n", 20001), impl.DeskOut{Code: impl.ErrSize}}, {strings.Repeat(" ", 19999) + "\n", impl.DeskOut{Code: impl.ErrSyntax}},
		{strings.Repeat("next ", 4000), impl.DeskOut{Code: impl.ErrSyntax}}, {strings.Repeat("next\n", 4000), impl.DeskOut{Line: 100, Code: impl.ErrSyntax}}, {strings.Repeat("next\n", 4001), impl.DeskOut{Code: impl.ErrSize}},
		{strings.Repeat("next\n", 100) + strings.Repeat("x", 19500), impl.DeskOut{Line: 100, Code: impl.ErrSyntax}}, {strings.Repeat("next\n", 100) + strings.Repeat("x", 19501), impl.DeskOut{Code: impl.ErrSize}},
		{strings.Repeat("x", 1<<20), impl.DeskOut{Code: impl.ErrSize}}, {"\n", impl.DeskOut{Code: impl.ErrSyntax}}, {"x", impl.DeskOut{Code: impl.ErrSyntax}}, {"", impl.DeskOut{}},
	} {
		sameDesk(t, "a long one", checkDesk(t, c.text), c.want)
	}
}

// Texts of 20000 bytes are done, and none that is longer; a take has at most 4000.
func TestTheLongestDesk(t *testing.T) {
	take := func(n int) string { return "take " + strings.Repeat("fa", n) + "\n" }
	for _, c := range []struct{ bytes, days, size int }{{1990, 0, 19998}, {1988, 1, 19999}, {1991, 0, 20000}, {1989, 1, 20001}, {1992, 0, 20002}} {
		text := take(4000) + take(4000) + take(c.bytes) + strings.Repeat("next\n", c.days)
		same(t, "its bytes", len(text), c.size)
		want := impl.DeskOut{Text: strings.Repeat("code 3 answer 0\n", 3) + strings.Repeat("code 0\n", c.days)}
		if c.size > 20000 {
			want = impl.DeskOut{Code: impl.ErrSize}
		}
		sameDesk(t, "the longest", checkDesk(t, text), want)
	}
	for _, n := range []int{3999, 4000, 4001, 9000} {
		want := impl.DeskOut{Text: "code 0\ncode 3 answer 0\n"}
		if n > 4000 {
			want = impl.DeskOut{Line: 1, Code: impl.ErrSyntax}
		}
		sameDesk(t, "a take", checkDesk(t, "next\n"+take(n)), want)
	}
}

// What fills up is told as full, and the gate goes on: Partners, answers that nobody hears, differences.
func TestDesksOfFullGates(t *testing.T) {
	text, want := "", ""
	for n := range 22 {
		code := int64(impl.OK)
		if n >= 20 {
			code = impl.ErrFull
		}
		text, want = text+"partner P"+number(int64(n))+"\n", want+"code "+number(code)+"\n"
	}
	sameText(t, "partners", checkDesk(t, text).Text, want)
	text, want = "partner ACME\n", "code 0\n"
	for n := range int64(62) {
		told := "code 0 answer " + number(n+1)
		if n >= 60 {
			told = "code 12 answer 0"
		}
		text, want = text+"order ACME PO-"+number(n)+" "+number(n+1)+" BOLT 1\n", want+told+"\n"
	}
	// One is heard, which has a number of its own, and so one more is taken.
	text += "take " + impl.Hex(sending("ACME", 61, "heard A1: 0 9")) + "\norder ACME PO-62 62 BOLT 1\norder ACME PO-63 63 BOLT 1\nhand BOLT\n"
	want += "code 0 answer 61\ncode 0 answer 62\ncode 12 answer 0\nhand 0\n"
	sameText(t, "answers", checkDesk(t, text).Text, want)
	checkOneByOne(t, text)
	over := slices.Repeat([]string{"sent PO-1: " + paperLines(20, " 9")}, 8)
	list := []impl.Event{admits("ACME"), taking(sending("ACME", 1, "order PO-1: "+paperLines(20, " ITEM-%d 1"))), taking(sending("ACME", 2, over...))}
	text = impl.EventsText(list) + "send ACME PO-1 3 1 9\n" + impl.EventsText([]impl.Event{taking(sending("ACME", 4, over[:2]...))}) + strings.Repeat("send ACME PO-1 3 1 9\n", 2) + "diffs\n"
	out := checkDesk(t, text).Text
	same(t, "told", strings.HasPrefix(out, "code 0\ncode 0 answer 1\ncode 0 answer 2\ncode 0 answer 3\ncode 12 answer 4\ncode 0 answer 3\ncode 0 answer 3\n"), true)
	same(t, "diffs", strings.Count(out, "\n"), 7+161)
}

// longDesk has so many lines of all words, of two Partners and of nobody, in an order that hangs on seed.
func longDesk(n int, seed int) string {
	pool := append(deskLines(), "partner C-1", "order C-1 PO-1 1 BOLT 9", "order C-1 PO-2 2 NUT 4", "send C-1 PO-2 3 1 3", "get C-1 PO-2 4 1 2", "cut C-1 PO-1 5 1 10", "lines", "diffs", "out", "hand BOLT", "hand NUT",
		"rate ACME", "rate C-1", "order XYZ PO-1 1 BOLT 9", "order ACME PO-3 36 X1 8", "send ACME PO-3 37 1 8", "get ACME PO-3 38 1 8", "plan C-1 PO-3 NUT 5 9", "next", "next", "take -")
	text := "partner C-1\npartner ACME\n"
	for range n - 2 {
		seed = (seed*211 + 1663) % 7875
		text += pool[seed%len(pool)] + "\n"
	}
	return text
}

func TestLongDesks(t *testing.T) {
	for seed := range 12 {
		text := longDesk(100, seed*89)
		same(t, "done", checkDesk(t, text).Code, int64(impl.OK))
		checkOneByOne(t, text)
	}
}

// Nothing is kept from call to call, and an answer is new memory: one text, done by several at once, tells
// each the same.
func TestOneDeskOfSeveral(t *testing.T) {
	text := longDesk(60, 7)
	want, outs, faults, words := deskPlainly(text), make([]impl.DeskOut, 64), make([]impl.DeskOut, 64), make([][]string, 64)
	var group sync.WaitGroup
	for at := range outs {
		group.Go(func() {
			outs[at], faults[at], words[at] = impl.DeskRun(text), impl.DeskFault(text+"x"), impl.DeskWords()
			slices.Reverse(impl.DeskWords())
		})
	}
	group.Wait()
	for at := range outs {
		sameDesk(t, "alike", outs[at], want)
		sameDesk(t, "alike", faults[at], impl.DeskOut{Line: 60, Code: impl.ErrSyntax})
		same(t, "alike", words[at], allDeskWords)
		same(t, "new memory", sharesAny([]string{outs[at].Text}, []string{text}), false)
	}
}
