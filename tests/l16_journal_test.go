package tests

import (
	"encoding/hex"
	"fmt"
	"math"
	"regexp"
	"slices"
	"strings"
	"sync"
	"testing"

	"loop.example/g00096/impl"
)

func admits(name string) impl.Event {
	return impl.Event{Kind: impl.EventPartner, A: name}
}

func crossing(partner string, theirs string, own string) impl.Event {
	return impl.Event{Kind: impl.EventCross, A: partner, B: theirs, C: own}
}

func taking(text string) impl.Event {
	return impl.Event{Kind: impl.EventTake, A: text}
}

func nextDay() impl.Event {
	return impl.Event{Kind: impl.EventNext}
}

// eventPlainly holds an Event to what chapter 17 says of its kind.
func eventPlainly(e impl.Event) bool {
	switch e.Kind {
	case 1:
		return plainName(e.A) && e.B == "" && e.C == ""
	case 2:
		return plainName(e.A) && plainName(e.B) && plainName(e.C)
	case 3:
		return len(e.A) < 4001 && e.B == "" && e.C == ""
	case 4:
		return e.A == "" && e.B == "" && e.C == ""
	}
	return false
}

func journalPlainly(list []impl.Event) bool {
	return len(list) < 61 && !slices.ContainsFunc(list, func(e impl.Event) bool { return !eventPlainly(e) })
}

func hexPlainly(text string) string {
	if len(text) > 4000 {
		return ""
	}
	return hex.EncodeToString([]byte(text))
}

// eventTextPlainly tells the text of a right Event.
func eventTextPlainly(e impl.Event) string {
	switch {
	case e.Kind == 1:
		return "partner " + e.A
	case e.Kind == 2:
		return "cross " + e.A + " " + e.B + " " + e.C
	case e.Kind == 3 && e.A == "":
		return "take -"
	case e.Kind == 3:
		return "take " + hexPlainly(e.A)
	}
	return "next"
}

func journalTextPlainly(list []impl.Event) string {
	text := ""
	if journalPlainly(list) {
		for _, e := range list {
			text += eventTextPlainly(e) + "\n"
		}
	}
	return text
}

const nameLetters = "([A-Z][A-Z0-9-]{0,11})"

// linePattern has each kind's words in groups of their own.
var linePattern = regexp.MustCompile("^(?:(partner) " + nameLetters + "|(cross) " + nameLetters + " " + nameLetters + " " + nameLetters + "|(take) (?:-|((?:[0-9a-f]{2})+))|next)\n$")

// lineReadPlainly tells the Event whose text a line is, with its line feed.
func lineReadPlainly(line string) (impl.Event, bool) {
	groups := linePattern.FindStringSubmatch(line)
	switch {
	case groups == nil || len(groups[8]) > 8000:
		return impl.Event{}, false
	case groups[1] != "":
		return admits(groups[2]), true
	case groups[3] != "":
		return crossing(groups[4], groups[5], groups[6]), true
	case groups[7] != "":
		text, err := hex.DecodeString(groups[8])
		return taking(string(text)), err == nil
	}
	return nextDay(), true
}

func journalReadPlainly(text string) impl.JournalOut {
	if len(text) > 20000 {
		return impl.JournalOut{Code: 2}
	}
	var list []impl.Event
	for text != "" {
		end := strings.Index(text, "\n") + 1
		e, is := lineReadPlainly(text[:end])
		if !is || len(list) == 60 {
			return impl.JournalOut{Line: int64(len(list)), Code: 3}
		}
		list, text = append(list, e), text[end:]
	}
	return impl.JournalOut{List: list}
}

// stepPlainly does an Event as chapter 17 tells it, on the plain tellings of the chapters ahead.
func stepPlainly(g impl.Gate, e impl.Event) (impl.Gate, int64) {
	switch e.Kind {
	case 1:
		if slices.ContainsFunc(g.Partners, func(p impl.Partner) bool { return p.Name == e.A }) {
			return g, 11
		}
		if len(g.Partners) == 20 {
			return g, 12
		}
		g.Partners = append(slices.Clone(g.Partners), impl.Partner{Name: e.A, Low: 1, Next: 1})
		slices.SortFunc(g.Partners, func(p impl.Partner, q impl.Partner) int { return strings.Compare(p.Name, q.Name) })
	case 2:
		g.Crosses = putPlainly(g.Crosses, cross(e.A, e.B, e.C))
	case 3:
		out := takenPlainly(g, e.A)
		return out.Gate, out.Code
	case 4:
		g.Outbox, g.Day = tickPlainly(g.Outbox, g.Day).List, g.Day+1
	}
	return g, 0
}

func journalRunPlainly(name string, list []impl.Event) impl.RunOut {
	if len(name) > 20000 || len(list) > 60 {
		return impl.RunOut{Code: 2}
	}
	if !plainName(name) || !journalPlainly(list) {
		return impl.RunOut{Code: 1}
	}
	out := impl.RunOut{Gate: impl.Gate{Name: name}}
	for _, e := range list {
		behind, code := stepPlainly(out.Gate, e)
		out.Gate, out.Codes = behind, append(out.Codes, code)
	}
	return out
}

func sameJournal(t *testing.T, what string, got impl.JournalOut, want impl.JournalOut) {
	t.Helper()
	if !slices.Equal(got.List, want.List) || got.Line != want.Line || got.Code != want.Code {
		t.Errorf("%s: got %s, want %s", what, short(got), short(want))
	}
}

func sameRun(t *testing.T, what string, got impl.RunOut, want impl.RunOut) {
	t.Helper()
	sameGate(t, what, got.Gate, want.Gate)
	if !slices.Equal(got.Codes, want.Codes) || got.Code != want.Code {
		t.Errorf("%s: got %v with %d, want %v with %d", what, got.Codes, got.Code, want.Codes, want.Code)
	}
}

// checkJournalText holds a journal's text to the plain telling, and to promise 24.
func checkJournalText(t *testing.T, list []impl.Event) string {
	t.Helper()
	given := slices.Clone(list)
	text := impl.EventsText(list)
	same(t, "not changed", list, given)
	sameText(t, "text", text, journalTextPlainly(list))
	for _, e := range list {
		same(t, "right", impl.EventRight(e), eventPlainly(e))
	}
	if journalPlainly(list) {
		want := impl.JournalOut{List: list}
		if len(text) > impl.MaxBytes {
			want = impl.JournalOut{Code: impl.ErrSize}
		}
		sameJournal(t, "24: it comes back", impl.EventsRead(text), want)
	}
	if t.Failed() {
		t.Fatalf("of %s", short(list))
	}
	return text
}

// checkJournalRead holds what is read of a text to the plain telling, and to promise 24.
func checkJournalRead(t *testing.T, text string) impl.JournalOut {
	t.Helper()
	out := impl.EventsRead(text)
	sameJournal(t, "read", out, journalReadPlainly(text))
	if out.Code == impl.OK {
		sameText(t, "24: told as just what stood there", impl.EventsText(out.List), text)
	} else {
		same(t, "nothing beside a fault", len(out.List), 0)
	}
	if t.Failed() {
		t.Fatalf("of %q", text[:min(len(text), 600)])
	}
	return out
}

// checkJournal holds a run to the plain telling, and to promise 26.
func checkJournal(t *testing.T, name string, list []impl.Event) impl.RunOut {
	t.Helper()
	given := slices.Clone(list)
	out := impl.EventsRun(name, list)
	same(t, "not changed", list, given)
	sameRun(t, "run", out, journalRunPlainly(name, list))
	if out.Code == impl.OK {
		checkFirstEvents(t, name, list, out)
	}
	if t.Failed() {
		t.Fatalf("of %s", short(list))
	}
	return out
}

// checkFirstEvents is promise 26: the first Events have the codes that they have within all, and the rest,
// done behind them, comes to what all come to.
func checkFirstEvents(t *testing.T, name string, list []impl.Event, all impl.RunOut) {
	t.Helper()
	same(t, "a code each", len(all.Codes), len(list))
	same(t, "right behind all", impl.GateRight(all.Gate), true)
	for _, n := range []int{0, 1, len(list) / 2, len(list) - 1, len(list)} {
		if n < 0 || n > len(list) {
			continue
		}
		first := impl.EventsRun(name, list[:n])
		same(t, "26: the first codes", slices.Equal(first.Codes, all.Codes[:n]), true)
		g := first.Gate
		for at, e := range list[n:] {
			behind, code := stepPlainly(g, e)
			same(t, "26: the other codes", code, all.Codes[n+at])
			g = behind
		}
		sameGate(t, "26: the gate behind all", all.Gate, g)
	}
}

// seenBy tells the code with which a gate has seen the number of a text, and whether it has.
func seenBy(g impl.Gate, text string) (int64, bool) {
	p := impl.ParcelRead(text).Parcel
	for _, partner := range g.Partners {
		for _, s := range partner.Seen {
			if partner.Name == p.From && s.Number == p.Number && g.Name == p.To {
				return s.Code, true
			}
		}
	}
	return 0, false
}

// checkAgain is promise 25: a text of the journal, delivered again at a later point, at which it is seen.
// It tells whether it was.
func checkAgain(t *testing.T, name string, list []impl.Event, at int, later int) bool {
	t.Helper()
	code, is := seenBy(impl.EventsRun(name, list[:later]).Gate, list[at].A)
	if !is || list[at].Kind != impl.EventTake {
		return false
	}
	want := impl.EventsRun(name, list)
	want.Codes = slices.Insert(slices.Clone(want.Codes), later, code)
	again := slices.Insert(slices.Clone(list), later, list[at])
	sameRun(t, "25: nothing changes in the end", impl.EventsRun(name, again), want)
	if t.Failed() {
		t.Fatalf("of the event at %d, again at %d, of %s", at, later, short(list))
	}
	return true
}

// checkAgainAnywhere asks promise 25 of each text and of each later point.
func checkAgainAnywhere(t *testing.T, name string, list []impl.Event) int {
	t.Helper()
	n := 0
	for at := range list {
		for later := at + 1; later <= len(list) && len(list) < impl.MaxEvents; later++ {
			if checkAgain(t, name, list, at, later) {
				n++
			}
		}
	}
	return n
}

// sampleJournal has Events of all kinds, and texts that are taken, refused and not read.
func sampleJournal() []impl.Event {
	return []impl.Event{
		taking(sending("ACME", 1, "order PO-1: 1 X1 4")), admits("ACME"), crossing("ACME", "X1", "BOLT"), taking(sending("ACME", 1, "order PO-1: 1 X1 4")),
		taking(sending("ACME", 2, "sent PO-1: 1 6")), nextDay(), taking(spoilt("ACME", 3)), admits("ACME"), taking(sending("ACME", 2, "got PO-1: 1 4")),
		crossing("ACME", "X2", "BOLT"), taking(sending("ACME", 40, "got PO-1: 1 3", "heard A1: 0 1")), nextDay(), taking(sending("ACME", 3, "got PO-1: 1 1")), taking(""), nextDay(),
	}
}

func TestASampleJournal(t *testing.T) {
	list := sampleJournal()
	checkJournalText(t, list)
	out := checkJournal(t, "DOCK", list)
	same(t, "codes", out.Codes, []int64{impl.ErrPartner, 0, 0, 0, 0, 0, impl.ErrSyntax, impl.ErrThere, 0, 0, 0, 0, impl.ErrStale, impl.ErrShort, 0})
	same(t, "day", out.Gate.Day, int64(3))
	same(t, "crosses", out.Gate.Crosses, []impl.Cross{cross("ACME", "X1", "BOLT")})
	same(t, "partners", out.Gate.Partners, []impl.Partner{partner(9, 5, seen(40, 4, 0))})
	same(t, "stocks", out.Gate.Book.Stocks, stocks("BOLT 3"))
	same(t, "lines", out.Gate.Book.Lines, []impl.OrderLine{{Partner: "ACME", Ref: "PO-1", No: 1, Item: "BOLT", Ordered: 4, Sent: 4, Got: 3}})
	same(t, "diffs", out.Gate.Diffs, []impl.Diff{diff(impl.DiffSent, "PO-1", 1, "BOLT", 2)})
	same(t, "again somewhere", checkAgainAnywhere(t, "DOCK", list) > 15, true)
	few := []impl.Event{admits("ACME"), crossing("A", "B-1", "C"), taking("A\n\xff"), taking(""), nextDay()}
	sameText(t, "text", checkJournalText(t, few), "partner ACME\ncross A B-1 C\ntake 410aff\ntake -\nnext\n")
}

func TestHex(t *testing.T) {
	sameText(t, "nothing", impl.Hex(""), "")
	sameText(t, "all digits", impl.Hex("\x01\x23\x45\x67\x89\xab\xcd\xef"), "0123456789abcdef")
	sameText(t, "runes are bytes too", impl.Hex("é\U0001f600\ufffd"), "c3a9f09f9880efbfbd")
	for pair := range 1 << 16 {
		text := string([]byte{byte(pair >> 8), byte(pair)})
		if got := impl.Hex(text); got != fmt.Sprintf("%04x", pair) {
			t.Fatalf("of %q: got %s", text, got)
		}
	}
	for _, n := range []int{1, 2, 16, 3999, 4000, 4001, 4002, 8000, 20000, 20001, 100000} {
		for _, b := range []string{"\x00", "A", "\xff", "\n"} {
			text := strings.Repeat(b, n)
			sameText(t, number(int64(n)), impl.Hex(text), hexPlainly(text))
			same(t, number(int64(n)), impl.Hex(text) == "", n > 4000)
		}
	}
}

// Every kind with every mix of fields, those at the edge of what may stand in one among them.
func TestEventRight(t *testing.T) {
	most := strings.Repeat("A", 4000)
	fields := []string{"", "ACME", "A-9", "x", "ABCDEFGHIJKL", "ABCDEFGHIJKLM", "A B", "\xff\n", most, most + "A", strings.Repeat("A", impl.MaxBytes+1)}
	rights := 0
	for _, kind := range []int64{math.MinInt64, -1, 0, 1, 2, 3, 4, 5, 6, 1<<32 + 1, math.MaxInt64} {
		for _, a := range fields {
			for _, b := range fields {
				for _, c := range fields {
					e := impl.Event{Kind: kind, A: a, B: b, C: c}
					is := impl.EventRight(e)
					if is != eventPlainly(e) {
						t.Fatalf("of %s: got %v", short(e), is)
					}
					if is {
						rights++
					}
				}
			}
		}
	}
	// Three names, three of three names, all but two long texts, and nothing.
	same(t, "rights", rights, 3+3*3*3+9+1)
	for _, name := range wrongNames {
		for _, e := range []impl.Event{admits(name), crossing(name, "A", "B"), crossing("A", name, "B"), crossing("A", "B", name)} {
			same(t, short(e), impl.EventRight(e), false)
			sameText(t, "no text", checkJournalText(t, []impl.Event{nextDay(), e}), "")
			sameRun(t, "no run", checkJournal(t, "DOCK", []impl.Event{nextDay(), e}), impl.RunOut{Code: impl.ErrForm})
		}
	}
}

// fewEvents are such that one would be taken for another if words, lines or bytes were not kept apart.
func fewEvents() []impl.Event {
	return []impl.Event{
		admits("A"), admits("B-1"), crossing("A", "A", "A"), crossing("A", "B", "C"), crossing("NEXT", "TAKE", "X"), taking(""), taking("-"), taking("\n"), taking(" "),
		taking("next\n"), taking("\x00"), taking("\xff\x00é"), nextDay(), {}, {Kind: 4, A: "A"}, {Kind: 1}, {Kind: 3, B: "A"}, {Kind: 2, A: "A", B: "B"}, {Kind: 5},
	}
}

// Promise 24, over every journal of up to three of them: no two have one text.
func TestJournalsComeBack(t *testing.T) {
	few, texts := fewEvents(), map[string]int{}
	add := func(list ...impl.Event) {
		text := checkJournalText(t, list)
		if journalPlainly(list) {
			texts[text]++
			same(t, "just once: "+text, texts[text], 1)
		} else {
			sameText(t, "wrong", text, "")
		}
	}
	add()
	for _, a := range few {
		add(a)
		for _, b := range few {
			add(a, b)
			for _, c := range few {
				add(a, b, c)
			}
		}
	}
	// 13 of them are right.
	same(t, "texts", len(texts), 1+13+13*13+13*13*13)
	for b := range 256 {
		checkJournalText(t, []impl.Event{taking(string([]byte{byte(b)})), taking(string([]byte{'A', byte(b), 0xc3}))})
	}
}

// Every line of up to five words, of those that stand in lines and of others.
func TestEveryShortLine(t *testing.T) {
	words, rights := []string{"partner", "cross", "take", "next", "A", "B-1", "5a", "-", "", "Next"}, 0
	var walk func(line string, deep int)
	walk = func(line string, deep int) {
		if checkJournalRead(t, line+"\n").Code == impl.OK {
			rights++
		}
		same(t, "without a line feed", impl.EventsRead(line).Code == impl.OK, line == "")
		if deep > 0 {
			for _, word := range words {
				walk(line+" "+word, deep-1)
			}
		}
	}
	for _, word := range words {
		walk(word, 4)
	}
	// A partner of two names, a cross of three of these, a take of digits or of none, and a next.
	same(t, "rights", rights, 2+2*2*2+2+1)
}

// eachByteAway checks the beginnings and ends of a text, and all texts with one byte more, less or changed.
func eachByteAway(text string, check func(changed string)) {
	for at := range len(text) + 1 {
		check(text[:at])
		check(text[at:])
		for b := range 256 {
			check(text[:at] + string([]byte{byte(b)}) + text[at:])
			if at < len(text) {
				check(text[:at] + string([]byte{byte(b)}) + text[at+1:])
			}
		}
		if at < len(text) {
			check(text[:at] + text[at+1:])
		}
	}
}

// What stands one byte away from a right journal is read as another one, or not at all.
func TestTextsOneByteAwayFromAJournal(t *testing.T) {
	text := impl.EventsText([]impl.Event{admits("ACME"), crossing("A", "B-1", "C"), taking("A\xff"), taking(""), nextDay()})
	codes := map[int64]int{}
	check := func(changed string) {
		codes[checkJournalRead(t, changed).Code]++
	}
	eachByteAway(text, check)
	same(t, "read", codes[impl.OK] > 100, true)
	same(t, "not read", codes[impl.ErrSyntax] > 1000, true)
}

func TestDigitsThatAreNone(t *testing.T) {
	for _, word := range []string{
		"5", "535", "5A", "A5", "5g", "g5", "0x53", "53 ", "5 3", "+5", "-5", "--", "-53", "53-", "é", "5é", "é5", "55é", "é55", "\xff\xff", "5\xff", "\xc3\xa9", "\ufffd5", "５３", "٣٣",
		"5\x00", "5\t", "5\r", "53\r", "5/", "5:", "5`", "5@", "5G", "",
	} {
		for _, ahead := range []string{"", "next\n", "take 53\npartner A\n"} {
			for _, behind := range []string{"", "next\n", "x"} {
				want := impl.JournalOut{Line: int64(strings.Count(ahead, "\n")), Code: impl.ErrSyntax}
				sameJournal(t, word, checkJournalRead(t, ahead+"take "+word+"\n"+behind), want)
			}
		}
	}
	for a := range 256 {
		for _, word := range []string{string([]byte{byte(a), '0'}), string([]byte{'f', byte(a)}), string([]byte{'0', 'f', byte(a), 'a'})} {
			checkJournalRead(t, "take "+word+"\n")
		}
	}
}

// The first line that is none's is told, whatever stands behind it.
func TestTheFirstWrongLine(t *testing.T) {
	for n := range 63 {
		lines := strings.Repeat("next\n", n)
		want := impl.JournalOut{List: slices.Repeat([]impl.Event{nextDay()}, n)}
		if n > 60 {
			want = impl.JournalOut{Line: 60, Code: impl.ErrSyntax}
		}
		sameJournal(t, "all right", checkJournalRead(t, lines), want)
		wrong := impl.JournalOut{Line: int64(min(n, 60)), Code: impl.ErrSyntax}
		for _, rest := range []string{"next", "x", "\n", " ", "\x00", "\nnext\n", "next \n", " next\n", "next\r\n", "Next\nnext", "take\n", "take \n", "take -", "partner A"} {
			sameJournal(t, rest, checkJournalRead(t, lines+rest), wrong)
		}
		for _, rest := range []string{"x\n", "\n", "next \n"} {
			sameJournal(t, "the first of several", checkJournalRead(t, lines+rest+rest+lines+"next"), wrong)
		}
	}
	for _, c := range []struct {
		text string
		want impl.JournalOut
	}{
		{strings.Repeat("\n", 20000), impl.JournalOut{Code: impl.ErrSyntax}}, {strings.Repeat("\n", 20001), impl.JournalOut{Code: impl.ErrSize}},
		{strings.Repeat(" ", 19999) + "\n", impl.JournalOut{Code: impl.ErrSyntax}}, {strings.Repeat("next ", 4000), impl.JournalOut{Code: impl.ErrSyntax}},
		{strings.Repeat("next\n", 4000), impl.JournalOut{Line: 60, Code: impl.ErrSyntax}}, {strings.Repeat("next\n", 4001), impl.JournalOut{Code: impl.ErrSize}},
		{"", impl.JournalOut{}},
	} {
		sameJournal(t, "a long one", checkJournalRead(t, c.text), c.want)
	}
}

// paperLines gives so many lines as paperBy has them: the No, and what stands behind it, with the No in it.
func paperLines(n int, rest string) string {
	var lines []string
	for at := range n {
		lines = append(lines, number(int64(at)+1)+strings.ReplaceAll(rest, "%d", number(int64(at)+1)))
	}
	return strings.Join(lines, ", ")
}

// A take has at most 4000 bytes, in an Event, in a line and in a run.
func TestTheLongestTake(t *testing.T) {
	for _, n := range []int{3998, 3999, 4000, 4001, 4002, 9000} {
		text, code := strings.Repeat("\xfa", n), int64(impl.ErrSyntax)
		if n <= 4000 {
			code = impl.OK
		}
		same(t, "right", impl.EventRight(taking(text)), n <= 4000)
		same(t, "told", checkJournalText(t, []impl.Event{taking(text)}) != "", n <= 4000)
		same(t, "read", checkJournalRead(t, "take "+strings.Repeat("fa", n)+"\n").Code, code)
		same(t, "run", checkJournal(t, "DOCK", []impl.Event{taking(text)}).Code == impl.OK, n <= 4000)
	}
	var orders []string
	for ref := range 9 {
		orders = append(orders, "order PO-"+number(int64(ref))+": "+paperLines(18, " ITEM-%d 100000"))
	}
	long := sending("ACME", 1, orders...)
	same(t, "a parcel's text", len(long) > 3500 && len(long) <= 4000, true)
	out := checkJournal(t, "DOCK", []impl.Event{admits("ACME"), taking(long), taking(long)})
	same(t, "taken", out.Codes, []int64{0, 0, 0})
	same(t, "lines", len(out.Gate.Book.Lines), 9*18)
}

// Texts of 20000 bytes are read, and none that is longer; the text of a journal may be.
func TestTheLongestJournalText(t *testing.T) {
	most := strings.Repeat("A", 4000)
	for _, c := range []struct{ bytes, days, size int }{{1990, 0, 19998}, {1988, 1, 19999}, {1991, 0, 20000}, {1989, 1, 20001}, {1992, 0, 20002}} {
		// Two takes of 8006 bytes stand ahead.
		list := append([]impl.Event{taking(most), taking(most), taking(most[:c.bytes])}, slices.Repeat([]impl.Event{nextDay()}, c.days)...)
		text := checkJournalText(t, list)
		same(t, "its bytes", len(text), c.size)
		same(t, "read", checkJournalRead(t, text).Code == impl.OK, c.size <= 20000)
	}
	all := slices.Repeat([]impl.Event{taking(most)}, 60)
	same(t, "the longest one", len(checkJournalText(t, all)), 60*8006)
	same(t, "it runs", checkJournal(t, "DOCK", all).Codes, slices.Repeat([]int64{impl.ErrSyntax}, 60))
}

// A journal has at most 60 Events, wrong ones among them or not.
func TestTheMostEvents(t *testing.T) {
	for _, n := range []int{0, 1, 59, 60, 61, 62, 399, 400, 401, 1000} {
		for _, e := range []impl.Event{nextDay(), admits("ACME"), crossing("A", "B", "C"), taking("x"), {}} {
			list := slices.Repeat([]impl.Event{e}, n)
			checkJournalText(t, list)
			want := int64(impl.OK)
			if n > 60 {
				want = impl.ErrSize
			} else if n > 0 && e.Kind == 0 {
				want = impl.ErrForm
			}
			same(t, "run", checkJournal(t, "DOCK", list).Code, want)
			if n > 60 {
				sameText(t, "no text", impl.EventsText(list), "")
			}
		}
	}
}

// Size comes ahead of form, and nothing is told beside either.
func TestTheOrderOfFaultsOfARun(t *testing.T) {
	long, wrong := strings.Repeat("A", impl.MaxBytes), impl.Event{Kind: 4, C: "x"}
	names := append([]string{long, long + "A", "DOCK"}, wrongNames...)
	for _, name := range names {
		for _, n := range []int{0, 1, 60, 61, 401} {
			for _, e := range []impl.Event{nextDay(), wrong} {
				code := int64(impl.OK)
				switch {
				case len(name) > impl.MaxBytes || n > impl.MaxEvents:
					code = impl.ErrSize
				case name != "DOCK" || n > 0 && e == wrong:
					code = impl.ErrForm
				}
				out := checkJournal(t, name, slices.Repeat([]impl.Event{e}, n))
				same(t, "code", out.Code, code)
				if code != impl.OK {
					sameRun(t, "nothing beside it", out, impl.RunOut{Code: code})
				}
			}
		}
	}
	// One wrong Event anywhere, and none is done.
	for at := range 60 {
		list := slices.Repeat([]impl.Event{nextDay()}, 60)
		for _, e := range []impl.Event{wrong, {}, {Kind: 5}, admits("a"), taking(strings.Repeat("A", 4001))} {
			list[at] = e
			sameRun(t, "a wrong one", checkJournal(t, "DOCK", list), impl.RunOut{Code: impl.ErrForm})
			sameText(t, "a wrong one", checkJournalText(t, list), "")
		}
	}
}

// What a gate refuses of an Event has its code, and changes nothing.
func TestWhatARunRefuses(t *testing.T) {
	var list []impl.Event
	var codes []int64
	add := func(code int64, e impl.Event) {
		list, codes = append(list, e), append(codes, code)
	}
	for at := range 20 {
		add(impl.OK, admits("P"+number(int64(50-at))))
	}
	add(impl.ErrFull, admits("P9"))
	add(impl.ErrFull, admits("ACME"))
	add(impl.ErrThere, admits("P31"))
	add(impl.ErrThere, admits("P50"))
	add(impl.OK, crossing("P50", "X1", "BOLT"))
	add(impl.OK, crossing("P50", "X2", "BOLT"))
	add(impl.OK, crossing("P50", "X1", "NUT"))
	add(impl.OK, crossing("NOBODY", "X1", "BOLT"))
	add(impl.ErrShort, taking(""))
	add(impl.ErrPartner, taking(sending("ACME", 1, "order PO-1: 1 X1 5")))
	add(impl.ErrPartner, taking(parcelTo("PORT", "P50", 1, "order PO-1: 1 X1 5")))
	add(impl.ErrNone, taking(sending("P50", 1, "sent PO-1: 1 5")))
	add(impl.OK, taking(sending("P50", 2, "order PO-1: 1 X1 5")))
	add(impl.ErrThere, taking(sending("P50", 3, "order PO-1: 1 X2 5")))
	add(impl.ErrNone, taking(sending("P50", 1, "order PO-2: 1 X1 5")))
	add(impl.ErrSum, taking(strings.Replace(sending("P50", 4, "order PO-2: 1 X1 5"), "IXT+1+4", "IXT+2+4", 1)))
	add(impl.ErrMany, taking("SYN'+:?"+strings.Repeat("ABC'", 201)))
	add(impl.OK, taking(sending("P31", 999999, "order PO-1: 1 X1 5")))
	add(impl.ErrStale, taking(sending("P31", 999967, "order PO-2: 1 X1 5")))
	add(impl.OK, taking(sending("P31", 999968, "order PO-2: 1 X1 5")))
	out := checkJournal(t, "DOCK", list)
	same(t, "codes", out.Codes, codes)
	sameCrosses(t, "crosses", out.Gate.Crosses, []impl.Cross{cross("NOBODY", "X1", "BOLT"), cross("P50", "X1", "NUT")})
	same(t, "partners", len(out.Gate.Partners), 20)
	checkAgainAnywhere(t, "DOCK", list)
}

// A text that would make too many differences is refused, is seen, and is refused again.
func TestAJournalWithTheMostDifferences(t *testing.T) {
	order, over := "order PO-1: "+paperLines(20, " ITEM-%d 1"), slices.Repeat([]string{"sent PO-1: " + paperLines(20, " 9")}, 8)
	list := []impl.Event{
		admits("ACME"), taking(sending("ACME", 1, order)), taking(sending("ACME", 2, over...)), nextDay(), taking(sending("ACME", 3, over[:3]...)),
		taking(sending("ACME", 4, over[:2]...)), taking(sending("ACME", 5, "sent PO-1: 1 1")), nextDay(),
	}
	out := checkJournal(t, "DOCK", list)
	same(t, "codes", out.Codes, []int64{0, 0, 0, 0, impl.ErrFull, 0, impl.ErrFull, 0})
	same(t, "diffs", len(out.Gate.Diffs), 200)
	// Five texts, each again at every later point.
	same(t, "again", checkAgainAnywhere(t, "DOCK", list), 7+6+4+3+2)
}

// Promise 25 at the window's edge: while a number is within it, nothing changes; below it, it is stale.
func TestAgainAtTheEdgeOfTheWindow(t *testing.T) {
	first := taking(sending("ACME", 1, "order PO-1: 1 X1 4"))
	for _, n := range []int64{2, 31, 32, 33, 34, 500, 999999} {
		list := []impl.Event{admits("ACME"), first, nextDay(), taking(sending("ACME", n, "sent PO-1: 1 4")), nextDay()}
		all := checkJournal(t, "DOCK", list)
		same(t, "codes", all.Codes, make([]int64, 5))
		same(t, "again", checkAgain(t, "DOCK", list, 1, 3), true)
		same(t, "still within", checkAgain(t, "DOCK", list, 1, 4), n <= 32)
		same(t, "still within", checkAgain(t, "DOCK", list, 1, 5), n <= 32)
		late := checkJournal(t, "DOCK", append(slices.Clone(list), first))
		code := int64(impl.ErrStale)
		if n <= 32 {
			code = impl.OK
		}
		same(t, "late", late.Codes[5], code)
		sameGate(t, "and nothing changes", late.Gate, all.Gate)
	}
	// Seen is what was taken alone: here nobody knew the sender yet.
	list := []impl.Event{first, admits("ACME")}
	same(t, "not seen", checkAgain(t, "DOCK", list, 0, 2), false)
	out := checkJournal(t, "DOCK", append(list, first, first))
	same(t, "taken later", out.Codes, []int64{impl.ErrPartner, 0, 0, 0})
	same(t, "just once", len(out.Gate.Book.Lines), 1)
	// A whole window of numbers is seen; the first one goes when the next one comes.
	list = []impl.Event{admits("ACME")}
	for n := range int64(32) {
		list = append(list, taking(sending("ACME", n+1, "adjust J-1: NUT 1")))
	}
	same(t, "all are seen", checkAgainAnywhere(t, "DOCK", list), 32*33/2)
	list = append(list, taking(sending("ACME", 33, "adjust J-1: NUT 1")))
	same(t, "the first one is stale", checkAgain(t, "DOCK", list, 1, 34), false)
	same(t, "the second one is not", checkAgain(t, "DOCK", list, 2, 34), true)
}

// journalSteps are Events that hang on those ahead of them.
func journalSteps() []impl.Event {
	return []impl.Event{
		admits("ACME"), crossing("ACME", "X1", "BOLT"), crossing("ACME", "X1", "NUT"), nextDay(), taking(sending("ACME", 1, "order PO-1: 1 X1 4")),
		taking(sending("ACME", 2, "sent PO-1: 1 6", "heard A1: 0 1")), taking(sending("ACME", 34, "got PO-1: 1 3")), taking(spoilt("ACME", 2)),
	}
}

// Promises 25 and 26, over every journal of up to four of them.
func TestEveryShortJournal(t *testing.T) {
	steps, codes, again := journalSteps(), map[int64]int{}, 0
	var walk func(list []impl.Event, deep int)
	walk = func(list []impl.Event, deep int) {
		out := checkJournal(t, "DOCK", list)
		checkJournalText(t, list)
		again += checkAgainAnywhere(t, "DOCK", list)
		for _, code := range out.Codes {
			codes[code]++
		}
		if deep > 0 {
			for _, e := range steps {
				walk(append(slices.Clone(list), e), deep-1)
			}
		}
	}
	walk(nil, 4)
	for _, code := range []int64{impl.OK, impl.ErrSyntax, impl.ErrNone, impl.ErrStale, impl.ErrPartner, impl.ErrThere} {
		same(t, "met the code "+number(code), codes[code] > 20, true)
	}
	same(t, "delivered again", again > 1000, true)
}

// longJournal has Events of all kinds of two Partners and of nobody, in an order that hangs on seed.
func longJournal(n int, seed int) []impl.Event {
	pool := []impl.Event{admits("ACME"), admits("C-1"), crossing("ACME", "X1", "BOLT"), crossing("ACME", "X2", "NUT"), crossing("C-1", "X1", "NUT"), nextDay(), nextDay(), nextDay()}
	for _, text := range gateSteps() {
		pool = append(pool, taking(text))
	}
	list := []impl.Event{admits("C-1"), admits("ACME")}
	for at := len(list); at < n; at++ {
		seed = (seed*211 + 1663) % 7875
		list = append(list, pool[seed%len(pool)])
	}
	return list
}

// Promises 24 to 26, of long journals.
func TestLongJournals(t *testing.T) {
	again := 0
	for seed := range 30 {
		list := longJournal(60, seed*97)
		checkJournal(t, "DOCK", list)
		checkJournalText(t, list)
		shorter := list[:59]
		for at := seed % 7; at < 59; at += 7 {
			for later := at + 1 + seed%3; later <= 59; later += 5 {
				if checkAgain(t, "DOCK", shorter, at, later) {
					again++
				}
			}
		}
	}
	same(t, "delivered again", again > 200, true)
	list := longJournal(60, 5)
	all := impl.EventsRun("DOCK", list)
	for n := range 61 {
		first := checkJournal(t, "DOCK", list[:n])
		same(t, "26: the first codes", slices.Equal(first.Codes, all.Codes[:n]), true)
	}
}

// A day more for each next; the answer to an order is sent on the days 0, 3, 9, 18 and 30, and lost on 45.
func TestDaysOfAJournal(t *testing.T) {
	list := append([]impl.Event{admits("ACME"), taking(sending("ACME", 1, "order PO-1: 1 X1 4"))}, slices.Repeat([]impl.Event{nextDay()}, 58)...)
	sent := []int64{0, 3, 9, 18, 30}
	for n := range 59 {
		g := checkJournal(t, "DOCK", list[:n+2]).Gate
		same(t, "day", g.Day, int64(n))
		same(t, "left", len(g.Outbox) == 1, n <= 45)
		if n <= 45 {
			tries := slices.IndexFunc(append(sent, 99), func(day int64) bool { return day >= int64(n) })
			same(t, "tries", g.Outbox[0].Tries, int64(tries))
		}
	}
	checkAgainAnywhere(t, "DOCK", list[:59])
}

// The name of the gate is the one that is handed in: what goes to another is refused.
func TestGatesOfOtherNames(t *testing.T) {
	for _, name := range []string{"DOCK", "PORT", "A", "ABCDEFGHIJKL"} {
		list := []impl.Event{admits("ACME"), taking(sending("ACME", 1, "order PO-1: 1 X1 4")), taking(parcelTo("PORT", "ACME", 1, "order PO-2: 1 X1 4"))}
		out := checkJournal(t, name, list)
		same(t, "name", out.Gate.Name, name)
		same(t, "taken", []bool{out.Codes[1] == impl.OK, out.Codes[2] == impl.OK}, []bool{name == "DOCK", name == "PORT"})
	}
}

// freshJournal gives Events in memory of their own, with places behind them that nobody is to write to.
func freshJournal(list []impl.Event) []impl.Event {
	fresh := make([]impl.Event, 0, len(list)+9)
	for _, e := range list {
		fresh = append(fresh, impl.Event{Kind: e.Kind, A: strings.Clone(e.A), B: strings.Clone(e.B), C: strings.Clone(e.C)})
	}
	return fresh
}

// textsOfEvents gives the texts of all Events.
func textsOfEvents(list []impl.Event) []string {
	var all []string
	for _, e := range list {
		all = append(all, e.A, e.B, e.C)
	}
	return all
}

func TestJournalsAreNewMemory(t *testing.T) {
	for _, given := range [][]impl.Event{sampleJournal(), longJournal(60, 3), {admits("ACME")}, {taking("x")}, {{Kind: 9}}} {
		list, name := freshJournal(given), strings.Clone("DOCK")
		handed := append(textsOfEvents(list), name)
		for n := range len(list) + 1 {
			out := impl.EventsRun(name, list[:n])
			checkNewGate(t, freshGate(out.Gate), out.Gate, "", impl.EventsRun(name, list[:n]).Gate)
			same(t, "the run", sharesAny(slices.Concat(textsOfGate(out.Gate)...), handed), false)
			spoilGate(out.Gate)
			clear(out.Codes)
			_ = append(out.Codes, 7)
			sameRun(t, "nothing is kept", impl.EventsRun(name, list[:n]), journalRunPlainly(name, list[:n]))
		}
		text := impl.EventsText(list)
		same(t, "the text", sharesAny([]string{text}, handed), false)
		read := impl.EventsRead(text)
		same(t, "what is read", sharesAny(textsOfEvents(read.List), []string{text}), false)
		clear(read.List)
		_ = append(read.List, nextDay())
		sameJournal(t, "nothing is kept", impl.EventsRead(text), journalReadPlainly(text))
		same(t, "not changed", list, given)
		same(t, "nothing behind it", list[len(list):cap(list)], make([]impl.Event, 9))
	}
	word := strings.Clone("A")
	same(t, "hex", sharesAny([]string{impl.Hex(word)}, []string{word}), false)
}

// Nothing is kept from call to call: one journal, asked for by several at once, answers each alike.
func TestOneJournalToldToSeveral(t *testing.T) {
	list := longJournal(40, 11)
	text := journalTextPlainly(list[:9])
	texts, hexes, reads, runs := make([]string, 64), make([]string, 64), make([]impl.JournalOut, 64), make([]impl.RunOut, 64)
	var group sync.WaitGroup
	for at := range texts {
		group.Go(func() {
			hexes[at], texts[at] = impl.Hex(list[at%40].A), impl.EventsText(list)
			reads[at], runs[at] = impl.EventsRead(text), impl.EventsRun("DOCK", list)
		})
	}
	group.Wait()
	want := journalRunPlainly("DOCK", list)
	for at := range texts {
		sameText(t, "alike", hexes[at], hexPlainly(list[at%40].A))
		sameText(t, "alike", texts[at], journalTextPlainly(list))
		sameJournal(t, "alike", reads[at], impl.JournalOut{List: list[:9]})
		sameRun(t, "alike", runs[at], want)
	}
}
