package tests

import (
	"slices"
	"strings"
	"sync"
	"testing"

	"loop.example/g00096/impl"
)

// dock gives a gate of that name with two Partners of whom nothing was heard so far.
func dock() impl.Gate {
	return impl.Gate{Name: "DOCK", Partners: []impl.Partner{impl.PartnerNew("ACME"), impl.PartnerNew("C-1")}, Crosses: acmeCrosses()}
}

// busyDock has something in each of its lists; its second Diff could come of no booking.
func busyDock() impl.Gate {
	g := dock()
	g.Day = 4
	g.Partners = []impl.Partner{
		partner(3, 9, seen(3, 5, 0), seen(7, 6, impl.ErrSyntax), seen(34, 7, impl.ErrFull)),
		{Name: "C-1", Low: 1, Next: 2, Seen: []impl.Seen{seen(1, 1, 0)}},
	}
	g.Book = sampleBook()
	g.Diffs = []impl.Diff{diff(impl.DiffSent, "PO-1", 1, "BOLT", 2), {Kind: -7, Partner: "nobody at all", Ref: "\n", Item: "\xff", Qty: 1 << 62}}
	g.Outbox = outs("ACME 5 1 7", "ACME 7 0 4", "C-1 1 5 2", "C-1 5 2 3")
	return g
}

// parcelTo gives the text of a Parcel whose papers are told as paperBy has them.
func parcelTo(to string, from string, n int64, papers ...string) string {
	return parcelTextPlainly(usual, impl.Parcel{From: from, To: to, Number: n, Papers: papersBy(papers...)})
}

// sending gives the text of a Parcel to DOCK.
func sending(from string, n int64, papers ...string) string {
	return parcelTo("DOCK", from, n, papers...)
}

// spoilt gives the text of a Parcel to DOCK with a head, but with a line of no quantity: the segment at 4.
func spoilt(from string, n int64) string {
	return strings.Replace(sending(from, n, "order PO-9: 1 BOLT 5"), "BOLT+5", "BOLT+0", 1)
}

// partnersPlainly holds each Partner to all ahead of it.
func partnersPlainly(list []impl.Partner) bool {
	for at, p := range list {
		if !partnerPlainly(p) {
			return false
		}
		for _, ahead := range list[:at] {
			if !(ahead.Name < p.Name) {
				return false
			}
		}
	}
	return len(list) < 21
}

// gatePlainly holds a Gate to what chapter 14 says of a right one.
func gatePlainly(g impl.Gate) bool {
	return plainName(g.Name) && dayPlainly(g.Day) && partnersPlainly(g.Partners) && crossPlainly(g.Crosses) &&
		bookPlainly(g.Book) && len(g.Diffs) < 201 && outboxPlainly(g.Outbox)
}

// answerTextPlainly tells the text of an answer mark by mark: nothing in it needs a release.
func answerTextPlainly(s impl.Syntax, g impl.Gate, to string, seen impl.Seen, place int64) string {
	el, end := string(rune(s.El)), string(rune(s.Seg))
	ack := []string{"ACK", number(seen.Code), number(seen.Number)}
	if place > 0 {
		ack = append(ack, number(place))
	}
	text := "SYN" + end + el + string(rune(s.Comp)) + string(rune(s.Rel))
	for _, words := range [][]string{
		{"IXH", g.Name, to, number(seen.Answer)}, {"GRH", "7", "1"}, {"MSH", "1"}, {"DOC", "A" + number(seen.Number), number(g.Day)}, ack,
		{"MST", "2", "1"}, {"GRT", "1", "1"}, {"IXT", "1", number(seen.Answer)},
	} {
		text += strings.Join(words, el) + end
	}
	return text
}

// judgedPlainly changes g to what is behind a new Parcel, if nothing refuses that; it tells code and place.
func judgedPlainly(g *impl.Gate, read impl.ParcelOut) (int64, int64) {
	if read.Code != 0 {
		return read.Code, read.Number + 1
	}
	book, diffs, outbox := g.Book, slices.Clone(g.Diffs), g.Outbox
	for at, p := range read.Parcel.Papers {
		out := bookedPlainly(book, g.Crosses, read.Parcel.From, p)
		if out.Code != 0 {
			return out.Code, int64(at) + 1
		}
		book, diffs = out.Book, append(diffs, out.Diffs...)
		if p.Kind == 7 {
			if heard := heardPlainly(outbox, read.Parcel.From, p.Lines[0].Qty); heard.Code == 0 {
				outbox = heard.List
			}
		}
	}
	if len(diffs) > 200 {
		return 12, 0
	}
	g.Book, g.Diffs, g.Outbox = book, diffs, outbox
	return 0, 0
}

// takenPlainly takes a text as chapter 14 tells it, on the plain tellings of the chapters ahead.
func takenPlainly(g impl.Gate, text string) impl.GateOut {
	if !gatePlainly(g) {
		if len(text) > 20000 {
			return impl.GateOut{Code: 2}
		}
		return impl.GateOut{Code: 1}
	}
	read := readParcelPlainly(text)
	if !read.Head {
		return impl.GateOut{Gate: g, At: read.At, Number: read.Number, Code: read.Code}
	}
	from, n := read.Parcel.From, read.Parcel.Number
	at := slices.IndexFunc(g.Partners, func(p impl.Partner) bool { return p.Name == from })
	if at < 0 || read.Parcel.To != g.Name {
		return impl.GateOut{Gate: g, Partner: from, Code: 9}
	}
	switch asked := takePlainly(partnerNext(g.Partners[at], 1), n, 0); asked.Kind {
	case 3:
		return impl.GateOut{Gate: g, Partner: from, Kind: 3, Code: 8}
	case 2:
		return impl.GateOut{Gate: g, Partner: from, Kind: 2, Answer: asked.Seen.Answer, Code: asked.Seen.Code}
	}
	behind := g
	code, place := judgedPlainly(&behind, read)
	taken := takePlainly(g.Partners[at], n, code)
	if taken.Code != 0 {
		return impl.GateOut{Gate: g, Partner: from, Code: 13}
	}
	behind.Partners = slices.Clone(g.Partners)
	behind.Partners[at] = taken.Partner
	if read.Code != 0 || !onlyHeard(read.Parcel) {
		answer := impl.Out{Partner: from, Number: taken.Seen.Answer, Text: answerTextPlainly(read.S, g, from, taken.Seen, place), Due: g.Day}
		put := outPutPlainly(behind.Outbox, answer)
		if put.Code != 0 {
			return impl.GateOut{Gate: g, Partner: from, Code: 12}
		}
		behind.Outbox = put.List
	}
	return impl.GateOut{Gate: behind, Partner: from, Kind: 1, Answer: taken.Seen.Answer, At: read.At, Number: read.Number, Code: code}
}

// onlyHeard: has the Parcel heard Papers alone?
func onlyHeard(p impl.Parcel) bool {
	return !slices.ContainsFunc(p.Papers, func(paper impl.Paper) bool { return paper.Kind != impl.KindHeard })
}

// gatesAlike holds two gates against each other, list by list; an empty list and none are the same.
func gatesAlike(a impl.Gate, b impl.Gate) bool {
	partners := slices.EqualFunc(a.Partners, b.Partners, func(p impl.Partner, q impl.Partner) bool {
		return p.Name == q.Name && p.Low == q.Low && p.Next == q.Next && slices.Equal(p.Seen, q.Seen)
	})
	return a.Name == b.Name && a.Day == b.Day && partners && slices.Equal(a.Crosses, b.Crosses) && booksAlike(a, b) && slices.Equal(a.Outbox, b.Outbox)
}

// booksAlike: have both the same book and the same differences?
func booksAlike(a impl.Gate, b impl.Gate) bool {
	return slices.Equal(a.Book.Stocks, b.Book.Stocks) && slices.Equal(a.Book.Lines, b.Book.Lines) && slices.Equal(a.Diffs, b.Diffs)
}

func sameGate(t *testing.T, what string, got impl.Gate, want impl.Gate) {
	t.Helper()
	if !gatesAlike(got, want) {
		t.Errorf("%s: got %s, want %s", what, short(got), short(want))
	}
}

// toldBeside gives what is told beside the gate.
func toldBeside(out impl.GateOut) impl.GateOut {
	out.Gate = impl.Gate{}
	return out
}

func sameTaken(t *testing.T, what string, got impl.GateOut, want impl.GateOut) {
	t.Helper()
	sameGate(t, what, got.Gate, want.Gate)
	same(t, what, toldBeside(got), toldBeside(want))
}

// checkTaken holds what becomes of a text to the plain telling, and to promises 17 to 19.
func checkTaken(t *testing.T, g impl.Gate, text string) impl.GateOut {
	t.Helper()
	given := freshGate(g)
	out := impl.GateTake(g, text)
	sameGate(t, "not changed", g, given)
	sameTaken(t, "taken", out, takenPlainly(g, text))
	if gatePlainly(g) {
		checkPromises(t, g, text, out)
	}
	if t.Failed() {
		t.Fatalf("of %s, taken by %s", short(text), short(g))
	}
	return out
}

// checkPromises asks nothing but what the promises say.
func checkPromises(t *testing.T, g impl.Gate, text string, out impl.GateOut) {
	t.Helper()
	same(t, "right behind it", impl.GateRight(out.Gate), true)
	again := impl.GateTake(out.Gate, text)
	same(t, "17: the same code and answer", []int64{again.Code, again.Answer}, []int64{out.Code, out.Answer})
	sameGate(t, "17: again changes nothing", again.Gate, out.Gate)
	if out.Kind == impl.TakeNew {
		same(t, "17: it was taken", again.Kind, int64(impl.TakeAgain))
		checkAnswers(t, g, text, out)
	} else {
		sameGate(t, "19: nothing changes", out.Gate, g)
	}
	if out.Code != impl.OK {
		same(t, "18: book and differences", booksAlike(out.Gate, g), true)
	}
}

// checkAnswers is promise 18's end: what is refused has one answer more than there was, which names the code.
func checkAnswers(t *testing.T, g impl.Gate, text string, out impl.GateOut) {
	t.Helper()
	read := impl.ParcelRead(text)
	var more []impl.Out
	for _, o := range out.Gate.Outbox {
		if !slices.Contains(g.Outbox, o) {
			more = append(more, o)
		}
	}
	if read.Code == impl.OK && onlyHeard(read.Parcel) {
		same(t, "what was heard has no answer", len(more), 0)
		same(t, "and no fault", out.Code, int64(impl.OK))
		return
	}
	if len(more) != 1 {
		t.Errorf("18: got %d answers", len(more))
		return
	}
	same(t, "its number, tries and day", []int64{more[0].Number, more[0].Tries, more[0].Due}, []int64{out.Answer, 0, g.Day})
	same(t, "whom it goes to", more[0].Partner, out.Partner)
	told := impl.ParcelRead(more[0].Text)
	same(t, "by the text's own syntax", told.S, read.S)
	same(t, "18: the answer's code", told.Code, int64(impl.OK))
	same(t, "from here", []any{told.Parcel.From, told.Parcel.To, told.Parcel.Number}, []any{g.Name, out.Partner, out.Answer})
	same(t, "one paper", len(told.Parcel.Papers), 1)
	line := told.Parcel.Papers[0].Lines[0]
	same(t, "18: names the code and the number", []int64{line.No, line.Qty}, []int64{out.Code, read.Parcel.Number})
	if out.Code == impl.OK {
		same(t, "no place", line.Money, int64(0))
	} else {
		same(t, "18: nothing else goes", len(out.Gate.Outbox), len(g.Outbox)+1)
	}
}

// checkDayOn is promise 20: what is due is sent, and all else is as it was.
func checkDayOn(t *testing.T, g impl.Gate) impl.Gate {
	t.Helper()
	given := freshGate(g)
	day, next := impl.GateDay(g), impl.GateNext(g)
	sameGate(t, "not changed", g, given)
	if !gatePlainly(g) {
		refusedWith(t, "no day of a wrong gate", day, impl.ErrForm)
		sameGate(t, "as it is", next, g)
		return next
	}
	sameOutbox(t, "the day", day, tickPlainly(g.Outbox, g.Day))
	for _, o := range g.Outbox {
		sent := slices.Contains(day.Sent, impl.Sent{Partner: o.Partner, Number: o.Number, Text: o.Text})
		same(t, "20: sends what is due", sent, o.Due <= g.Day && o.Tries < impl.MaxTries)
	}
	want := g
	if g.Day < impl.MaxDay {
		want.Outbox, want.Day = day.List, g.Day+1
	}
	sameGate(t, "20: nothing else", next, want)
	same(t, "right behind it", impl.GateRight(next), true)
	if t.Failed() {
		t.Fatalf("of %s", short(g))
	}
	return next
}

func TestGateNew(t *testing.T) {
	for _, name := range []string{"A", "DOCK", "A-", "Z-9ABCDEFGHI"} {
		sameGate(t, name, impl.GateNew(name), impl.Gate{Name: name})
		same(t, name, impl.GateRight(impl.GateNew(name)), true)
	}
	for _, name := range wrongNames {
		sameGate(t, "no name", impl.GateNew(name), impl.Gate{})
	}
	sameGate(t, "a long one", impl.GateNew(strings.Repeat("A", impl.MaxBytes)), impl.Gate{})
}

// rightGates are at the edges of what chapter 14 lets a gate be.
func rightGates() []impl.Gate {
	full := busyDock()
	full.Day, full.Partners, full.Outbox, full.Crosses = impl.MaxDay, manyPartners(20), manyOuts(60), manyCrosses(200)
	full.Diffs, full.Book = make([]impl.Diff, 200), impl.Book{Stocks: manyStocks(100), Lines: manyLines(200)}
	late := dock()
	late.Day, late.Diffs, late.Outbox = 99999, []impl.Diff{}, edgeOuts()[:2]
	return []impl.Gate{{Name: "A"}, {Name: "Z-9ABCDEFGHI", Day: 1}, dock(), busyDock(), full, late}
}

// manyPartners gives n of them, rising.
func manyPartners(n int) []impl.Partner {
	var all []impl.Partner
	for at := range n {
		p := rightPartners()[at%len(rightPartners())]
		p.Name = "P" + number(int64(100+at))
		all = append(all, p)
	}
	return all
}

// wrongGates are not right by one thing each.
func wrongGates() []impl.Gate {
	all := []impl.Gate{{}}
	with := func(change func(g *impl.Gate)) {
		g := busyDock()
		change(&g)
		all = append(all, g)
	}
	for _, name := range wrongNames {
		with(func(g *impl.Gate) { g.Name = name })
		with(func(g *impl.Gate) { g.Partners[0].Name = name })
		with(func(g *impl.Gate) { g.Partners[1].Name = name })
	}
	for _, day := range append([]int64{100001, 100002}, hugeNumbers...) {
		with(func(g *impl.Gate) { g.Day = day })
	}
	for _, names := range []string{"ACME ACME", "B A", "AB A", "A- A", "A B B", "A C B", "A A B", "B C A"} {
		with(func(g *impl.Gate) {
			g.Partners = nil
			for _, name := range strings.Split(names, " ") {
				g.Partners = append(g.Partners, impl.PartnerNew(name))
			}
		})
	}
	for _, p := range changedPartners() {
		if !partnerPlainly(p) && len(p.Name) < 20 {
			with(func(g *impl.Gate) { g.Partners[0] = p })
		}
	}
	for _, crosses := range append(wrongCrosses(), manyCrosses(401)) {
		with(func(g *impl.Gate) { g.Crosses = crosses })
	}
	for _, book := range wrongBooks() {
		with(func(g *impl.Gate) { g.Book = book })
	}
	for _, list := range append(wrongOutboxes(), manyOuts(401)) {
		with(func(g *impl.Gate) { g.Outbox = list })
	}
	for _, size := range []int{201, 202, 400, 401} {
		with(func(g *impl.Gate) { g.Diffs = make([]impl.Diff, size) })
	}
	for _, size := range []int{21, 22, 401} {
		with(func(g *impl.Gate) { g.Partners = manyPartners(size) })
	}
	return all
}

func TestGateRight(t *testing.T) {
	for _, g := range rightGates() {
		same(t, "right", impl.GateRight(g), true)
		same(t, "plainly", gatePlainly(g), true)
	}
	for _, g := range wrongGates() {
		if impl.GateRight(g) || gatePlainly(g) {
			t.Errorf("right: %s", short(g))
		}
	}
	for _, p := range changedPartners() {
		g := dock()
		g.Partners = []impl.Partner{p}
		same(t, "a Partner", impl.GateRight(g), partnerPlainly(p))
	}
	for size := range 23 {
		g := dock()
		g.Partners = manyPartners(size)
		same(t, "Partners", impl.GateRight(g), size <= impl.MaxPartners)
	}
	for _, size := range []int{0, 1, 199, 200, 201} {
		g := dock()
		g.Diffs = make([]impl.Diff, size)
		same(t, "Diffs", impl.GateRight(g), size <= impl.MaxDiffs)
	}
	same(t, "the limits", []int{impl.MaxPartners, impl.MaxDiffs}, []int{20, 200})
}

// Whatever is asked of a gate that is not right, it is refused; lists within it have no limit of their own.
func TestWrongGatesDoNothing(t *testing.T) {
	text, long := sending("ACME", 50, "order PO-9: 1 X1 5"), strings.Repeat("A", impl.MaxBytes+1)
	for _, g := range wrongGates() {
		for _, one := range []string{text, spoilt("ACME", 50), "", "SY", parcelTo("NOBODY", "X", 3, "heard A1: 0 1"), long[1:]} {
			sameTaken(t, "form", checkTaken(t, g, one), impl.GateOut{Code: impl.ErrForm})
		}
		sameTaken(t, "size comes ahead of form", checkTaken(t, g, long), impl.GateOut{Code: impl.ErrSize})
		for _, name := range []string{"ACME", "NEW", "", "x"} {
			sameTaken(t, "no Partner", impl.GatePartner(g, name), impl.GateOut{Code: impl.ErrForm})
		}
		sameTaken(t, "size comes ahead of form", impl.GatePartner(g, long), impl.GateOut{Code: impl.ErrSize})
		checkDayOn(t, g)
		same(t, "no answer", impl.GateAnswer(g, "ACME", 1, 0, 0), impl.Paper{})
	}
}

// A text of the most bytes is read; a longer one is refused ahead of all else, and the gate is as it was.
func TestTheLongestTextsThatAGateTakes(t *testing.T) {
	text := sending("ACME", 50, "order PO-9: 1 X1 5")
	for _, g := range rightGates() {
		for _, begin := range []string{"", text, "SYN'+:?", "SYN'+:?IXH+ACME+DOCK+50'", spoilt("ACME", 50)} {
			for _, fill := range []string{"A", "'", "ABC'"} {
				all := begin + strings.Repeat(fill, impl.MaxBytes+1)
				most := checkTaken(t, g, all[:impl.MaxBytes])
				same(t, "the most", most.Code == impl.ErrSize, false)
				sameTaken(t, "one more", checkTaken(t, g, all[:impl.MaxBytes+1]), impl.GateOut{Gate: g, Code: impl.ErrSize})
				sameTaken(t, "many more", checkTaken(t, g, all), impl.GateOut{Gate: g, Code: impl.ErrSize})
			}
		}
	}
}

func TestPartnersOfAGate(t *testing.T) {
	g := impl.GateNew("DOCK")
	names := []string{"M", "A", "Z", "A-", "MM", "B", "DOCK"}
	for _, name := range names {
		out := impl.GatePartner(g, name)
		same(t, "told beside it", toldBeside(out), impl.GateOut{})
		same(t, "right", impl.GateRight(out.Gate), true)
		sameTaken(t, "there", impl.GatePartner(out.Gate, name), impl.GateOut{Code: impl.ErrThere})
		g = out.Gate
	}
	slices.Sort(names)
	var want []impl.Partner
	for _, name := range names {
		want = append(want, impl.Partner{Name: name, Low: 1, Next: 1})
	}
	sameGate(t, "in order", g, impl.Gate{Name: "DOCK", Partners: want})
	busy := busyDock()
	with := busyDock()
	with.Partners = slices.Insert(with.Partners, 1, impl.PartnerNew("ACMF"))
	sameTaken(t, "all else as it was", impl.GatePartner(busy, "ACMF"), impl.GateOut{Gate: with})
	sameGate(t, "not changed", busy, busyDock())
}

// Each fault comes ahead of those that are named behind it.
func TestPartnersThatAreRefused(t *testing.T) {
	full := dock()
	full.Partners = manyPartners(20)
	for _, name := range wrongNames {
		for _, g := range []impl.Gate{dock(), full, {Name: "DOCK"}} {
			code := int64(impl.ErrForm)
			if len(name) > impl.MaxBytes {
				code = impl.ErrSize
			}
			sameTaken(t, "no name", impl.GatePartner(g, name), impl.GateOut{Code: code})
		}
	}
	sameTaken(t, "a long name", impl.GatePartner(full, strings.Repeat("A", impl.MaxBytes)), impl.GateOut{Code: impl.ErrForm})
	for _, name := range []string{"A", "P1005", "Z"} {
		sameTaken(t, "full", impl.GatePartner(full, name), impl.GateOut{Code: impl.ErrFull})
	}
	for at, p := range full.Partners {
		sameTaken(t, "there comes ahead of full", impl.GatePartner(full, p.Name), impl.GateOut{Code: impl.ErrThere})
		less := full
		less.Partners = slices.Delete(slices.Clone(full.Partners), at, at+1)
		out := impl.GatePartner(less, p.Name)
		same(t, "the last place", out.Code, int64(impl.OK))
		same(t, "there", out.Gate.Partners[at], impl.PartnerNew(p.Name))
		same(t, "all", len(out.Gate.Partners), 20)
	}
}

func TestAnswersOfAGate(t *testing.T) {
	for _, g := range rightGates() {
		for _, n := range []int64{1, 7, 10, 999999} {
			for code := int64(-1); code <= 14; code++ {
				for _, place := range []int64{-1, 0, 1, 200, 1000000000, 1000000001} {
					want := impl.Paper{Kind: 7, Ref: "A" + number(n), Day: g.Day, Lines: []impl.Line{{No: code, Qty: n, Money: place}}}
					if code < 0 || code > 13 || place < 0 || place > 1000000000 {
						want = impl.Paper{}
					}
					same(t, "answer", impl.GateAnswer(g, "ACME", n, code, place), want)
					same(t, "right", impl.PaperRight(impl.GateAnswer(g, "NOBODY", n, code, place)), want.Kind == 7)
				}
			}
		}
		for _, name := range append([]string{strings.Repeat("A", impl.MaxBytes)}, wrongNames...) {
			same(t, "no name", impl.GateAnswer(g, name, 1, 0, 0), impl.Paper{})
		}
		for _, n := range append(slices.Clone(wrongControls), hugeNumbers...) {
			same(t, "no number", impl.GateAnswer(g, "ACME", n, 0, 0), impl.Paper{})
		}
		for _, n := range append(slices.Clone(wrongCodes), hugeNumbers...) {
			same(t, "no code", impl.GateAnswer(g, "ACME", 1, n, 0), impl.Paper{})
		}
		for _, n := range hugeNumbers {
			same(t, "no place", impl.GateAnswer(g, "ACME", 1, 0, n), impl.Paper{})
		}
	}
}

// An order from its coming to its end, with all that goes out, each step as it stands there.
func TestAGateFromEndToEnd(t *testing.T) {
	g := dock()
	for _, step := range []struct {
		text   string
		answer int64
		code   int64
		out    string
	}{
		{sending("ACME", 7, "order PO-1: 1 X1 5"), 1, impl.OK, "SYN'+:?IXH+DOCK+ACME+1'GRH+7+1'MSH+1'DOC+A7+0'ACK+0+7'MST+2+1'GRT+1+1'IXT+1+1'"},
		{sending("C-1", 7, "order PO-1: 1 X1 5"), 1, impl.OK, "SYN'+:?IXH+DOCK+C-1+1'GRH+7+1'MSH+1'DOC+A7+0'ACK+0+7'MST+2+1'GRT+1+1'IXT+1+1'"},
		{sending("ACME", 8, "heard H-1: 0 1", "sent PO-1: 1 7"), 2, impl.OK, "SYN'+:?IXH+DOCK+ACME+2'GRH+7+1'MSH+1'DOC+A8+0'ACK+0+8'MST+2+1'GRT+1+1'IXT+1+2'"},
		{sending("ACME", 10, "heard H-1: 0 2", "order PO-1: 2 X2 5"), 3, impl.ErrThere, "SYN'+:?IXH+DOCK+ACME+3'GRH+7+1'MSH+1'DOC+A10+0'ACK+11+10+2'MST+2+1'GRT+1+1'IXT+1+3'"},
		{spoilt("ACME", 9), 4, impl.ErrSyntax, "SYN'+:?IXH+DOCK+ACME+4'GRH+7+1'MSH+1'DOC+A9+0'ACK+3+9+5'MST+2+1'GRT+1+1'IXT+1+4'"},
		{sending("ACME", 11, "got PO-1: 1 5", "adjust J-1: X2 3"), 5, impl.OK, "SYN'+:?IXH+DOCK+ACME+5'GRH+7+1'MSH+1'DOC+A11+0'ACK+0+11'MST+2+1'GRT+1+1'IXT+1+5'"},
		{sending("C-1", 3, "got PO-1: 1 5", "stock K-1: BOLT 4"), 2, impl.OK, "SYN'+:?IXH+DOCK+C-1+2'GRH+7+1'MSH+1'DOC+A3+0'ACK+0+3'MST+2+1'GRT+1+1'IXT+1+2'"},
		{sending("ACME", 12, "heard H-1: 0 4", "heard H-2: 0 2"), 6, impl.OK, ""},
	} {
		out := checkTaken(t, g, step.text)
		same(t, "told", []int64{out.Kind, out.Answer, out.Code}, []int64{impl.TakeNew, step.answer, step.code})
		at := placePlainly(out.Gate.Outbox, out.Partner, step.answer)
		if step.out == "" {
			same(t, "no answer", at, -1)
		} else {
			same(t, "answer", out.Gate.Outbox[at].Text, step.out)
		}
		g = out.Gate
	}
	same(t, "stocks", g.Book.Stocks, stocks("BOLT 5", "NUT 3", "X1 0"))
	sent := impl.OrderLine{Partner: "ACME", Ref: "PO-1", No: 1, Item: "BOLT", Ordered: 5, Sent: 5, Got: 5}
	same(t, "lines", g.Book.Lines, []impl.OrderLine{sent, {Partner: "C-1", Ref: "PO-1", No: 1, Item: "X1", Ordered: 5}})
	same(t, "diffs", g.Diffs, []impl.Diff{
		diff(impl.DiffSent, "PO-1", 1, "BOLT", 2), {Kind: impl.DiffGot, Partner: "C-1", Ref: "PO-1", No: 1, Item: "X1", Qty: 5},
		{Kind: impl.DiffStock, Partner: "C-1", Ref: "K-1", Item: "BOLT", Qty: -1},
	})
	same(t, "seen", g.Partners[0], partner(1, 7, seen(7, 1, 0), seen(8, 2, 0), seen(9, 4, 3), seen(10, 3, 11), seen(11, 5, 0), seen(12, 6, 0)))
	var left []int64
	for _, o := range g.Outbox {
		left = append(left, o.Number)
	}
	same(t, "left", left, []int64{3, 5, 1, 2})
}

// gateSteps are texts of two Partners and of nobody, new, again and stale, right and wrong.
func gateSteps() []string {
	return []string{
		sending("ACME", 1, "order PO-1: 1 X1 4, 2 X2 2"), sending("ACME", 2, "sent PO-1: 1 6, 2 1"), sending("ACME", 2, "got PO-1: 1 3"),
		sending("ACME", 40, "got PO-1: 1 9"), sending("ACME", 3, "heard H-1: 0 1"), sending("ACME", 4, "heard H-1: 0 2", "adjust J-1: X1 -1", "stock K-1: X2 4"),
		spoilt("ACME", 5), sending("C-1", 1, "order PO-1: 1 X1 4"), sending("XYZ", 1, "order PO-1: 1 X1 4"), parcelTo("PORT", "ACME", 6, "order PO-2: 1 X1 4"),
		"SYN'+:?IXH+ACME+'", sending("ACME", 33, "answer PO-1: 2 1", "heard H-1: 3 1"), sending("ACME", 8, "heard H-1: 0 1", "order PO-1: 3 BOLT 1"),
	}
}

// Promises 17 to 20, over every run of four steps: texts that are taken, and days that end.
func TestEveryShortRunOfTexts(t *testing.T) {
	steps, codes, kinds := gateSteps(), map[int64]int{}, map[int64]int{}
	var walk func(g impl.Gate, deep int)
	walk = func(g impl.Gate, deep int) {
		if deep == 0 {
			return
		}
		for _, text := range steps {
			out := checkTaken(t, g, text)
			codes[out.Code]++
			kinds[out.Kind]++
			walk(out.Gate, deep-1)
		}
		walk(checkDayOn(t, g), deep-1)
	}
	walk(dock(), 4)
	for _, code := range []int64{impl.OK, impl.ErrSyntax, impl.ErrNone, impl.ErrStale, impl.ErrPartner, impl.ErrThere} {
		same(t, "met the code "+number(code), codes[code] > 20, true)
	}
	for _, kind := range []int64{0, impl.TakeNew, impl.TakeAgain, impl.TakeStale} {
		same(t, "met the kind "+number(kind), kinds[kind] > 20, true)
	}
}

// Promise 17 at any later time: whatever came meanwhile, the first answer is told while it is seen.
func TestATextIsTakenOnce(t *testing.T) {
	steps := gateSteps()
	for first, text := range steps {
		out := checkTaken(t, busyDock(), text)
		behind := out.Gate
		for at := range steps {
			behind = checkDayOn(t, checkTaken(t, behind, steps[(first+at)%len(steps)]).Gate)
			again := checkTaken(t, behind, text)
			if again.Kind == impl.TakeAgain {
				same(t, "as at first", []int64{again.Answer, again.Code}, []int64{out.Answer, out.Code})
			}
			sameGate(t, "nothing changes", again.Gate, behind)
		}
	}
}

// What is told again is what was Seen, whatever that is, also of another text, a spoilt or a full one.
func TestAgainTellsWhatWasSeen(t *testing.T) {
	for code := range int64(14) {
		g := busyDock()
		g.Partners[0] = partner(3, impl.MaxNumber, seen(5, 77, code))
		g.Outbox, g.Diffs = manyOuts(60), make([]impl.Diff, 200)
		want := impl.GateOut{Gate: g, Partner: "ACME", Kind: impl.TakeAgain, Answer: 77, Code: code}
		for _, text := range []string{
			sending("ACME", 5, "order PO-9: 1 X1 5"), sending("ACME", 5, "order PO-1: 1 X1 5"), sending("ACME", 5, "heard A1: 0 95"), spoilt("ACME", 5),
			"SYN'+:?IXH+ACME+DOCK+5'", strings.Replace(sending("ACME", 5, "stock K-1: X1 1"), "IXT+1+5", "IXT+2+5", 1),
		} {
			sameTaken(t, "again", checkTaken(t, g, text), want)
		}
	}
}

// Promise 19: below the window nothing is taken, be the text right or not, and whatever is full.
func TestWhatIsStaleChangesNothing(t *testing.T) {
	for _, low := range []int64{2, 3, 33, 500, 999968, 999999} {
		g := busyDock()
		g.Partners[0] = partner(low, impl.MaxNumber)
		g.Outbox, g.Diffs = manyOuts(60), make([]impl.Diff, 200)
		want := impl.GateOut{Gate: g, Partner: "ACME", Kind: impl.TakeStale, Code: impl.ErrStale}
		for _, n := range []int64{1, low / 2, low - 1} {
			for _, text := range []string{sending("ACME", n, "order PO-9: 1 X1 5"), sending("ACME", n, "heard A1: 0 95"), spoilt("ACME", n), "SYN'+:?IXH+ACME+DOCK+" + number(n) + "'"} {
				sameTaken(t, "stale", checkTaken(t, g, text), want)
			}
		}
		same(t, "the lowest one", checkTaken(t, g, sending("ACME", low, "heard A1: 0 1")).Code, int64(impl.ErrState))
		g.Partners[0].Next = 1
		same(t, "the lowest one", checkTaken(t, g, sending("ACME", low, "heard A1: 0 1")).Kind, int64(impl.TakeNew))
	}
}

// Promise 19: neither from nobody nor to another one; no place of a fault is told then.
func TestWhatComesFromNobodyKnownChangesNothing(t *testing.T) {
	for _, g := range rightGates() {
		for _, from := range []string{"NOBODY", "ACM", "ACMEE", "A", "Z", "DOCK", "C-", "C-11", "P100"} {
			for _, to := range []string{"DOCK", "PORT", "ACME", "DOC", "DOCKS", "A"} {
				known := slices.ContainsFunc(g.Partners, func(p impl.Partner) bool { return p.Name == from })
				for _, text := range []string{parcelTo(to, from, 50, "order PO-9: 1 X1 5"), parcelTo(to, from, 1, "heard A1: 0 1"), "SYN'+:?IXH+" + from + "+" + to + "+50'"} {
					out := checkTaken(t, g, text)
					if !known || to != g.Name {
						sameTaken(t, "nobody", out, impl.GateOut{Gate: g, Partner: from, Code: impl.ErrPartner})
					}
				}
			}
		}
	}
	g := busyDock()
	for _, n := range []int64{1, 3, 50} {
		sameTaken(t, "to another one comes ahead of stale and again", checkTaken(t, g, parcelTo("PORT", "ACME", n, "order PO-9: 1 X1 5")), impl.GateOut{Gate: g, Partner: "ACME", Code: impl.ErrPartner})
	}
}

// Where no head is read, the text's own fault is told, and nobody's window is looked at.
func TestTextsWithoutAHead(t *testing.T) {
	for _, c := range []struct {
		text             string
		at, number, code int64
	}{
		{"", 0, 0, impl.ErrShort}, {"SY", 0, 0, impl.ErrShort}, {"SYX", 0, 0, impl.ErrSyntax}, {"SYN'+:'", 0, 0, impl.ErrSyntax}, {"SYN'+:?", 7, 0, impl.ErrNone},
		{"SYN'+:?IXH+ACME+DOCK+50", 7, 0, impl.ErrShort}, {"SYN'+:?IXH+ACME+DOCK+0'", 7, 0, impl.ErrSyntax}, {"SYN'+:?IXH+acme+DOCK+50'", 7, 0, impl.ErrSyntax},
		{"SYN'+:?GRH+1+1'", 7, 0, impl.ErrSyntax}, {"SYN'+:?IXH+ACME+DOCK+50'GRH+1+1:'", 30, 1, impl.ErrSyntax}, {"SYN'+:?IXH+ACME+DOCK+50'GRH+1", 24, 1, impl.ErrShort},
		{"SYN'+:?" + strings.Repeat("ABC'", 200), 7, 0, impl.ErrSyntax}, {"SYN'+:?" + strings.Repeat("ABC'", 201), 807, 200, impl.ErrMany},
	} {
		for _, g := range rightGates() {
			sameTaken(t, c.text, checkTaken(t, g, c.text), impl.GateOut{Gate: g, At: c.at, Number: c.number, Code: c.code})
		}
	}
}

// Promise 18: of each fault behind the head there is one answer, which names its code and its segment or paper.
func TestWhatIsRefusedHasOneAnswer(t *testing.T) {
	order := sending("ACME", 50, "order PO-9: 1 X1 5")
	for _, c := range []struct {
		what, text       string
		at, number, code int64
		place            int64
	}{
		{"a head alone", "SYN'+:?IXH+ACME+DOCK+50'", 24, 1, impl.ErrShort, 2},
		{"a line's form", spoilt("ACME", 50), 49, 4, impl.ErrSyntax, 5},
		{"a count", strings.Replace(order, "MST+2", "MST+3", 1), 60, 5, impl.ErrSum, 6},
		{"the last number", strings.Replace(order, "IXT+1+50", "IXT+1+51", 1), 76, 7, impl.ErrSum, 8},
		{"no parcel's numbers", strings.NewReplacer("GRH+1+1", "GRH+1+2", "GRT+1+1", "GRT+1+2").Replace(order), 7, 0, impl.ErrSyntax, 1},
		{"two lines of one item", sending("ACME", 50, "order PO-9: 1 X1 5, 2 X1 5"), 60, 5, impl.ErrThere, 6},
		{"a heard paper's form", strings.Replace(sending("ACME", 50, "heard A1: 0 5"), "ACK+0+5", "ACK+0+5+0", 1), 47, 4, impl.ErrSyntax, 5},
		{"an order that is there", sending("ACME", 50, "order PO-1: 9 X1 5"), 0, 0, impl.ErrThere, 1},
		{"no such line", sending("ACME", 50, "order PO-9: 1 X1 5", "sent PO-1: 4 1"), 0, 0, impl.ErrNone, 2},
		{"a full stock", sending("ACME", 50, "heard A1: 0 5", "adjust J-1: X1 1", "adjust J-1: SCREW 1"), 0, 0, impl.ErrFull, 3},
	} {
		g := busyDock()
		out := checkTaken(t, g, c.text)
		want := impl.GateOut{Gate: busyDock(), Partner: "ACME", Kind: impl.TakeNew, Answer: 9, At: c.at, Number: c.number, Code: c.code}
		want.Gate.Partners[0] = partner(19, 10, seen(34, 7, impl.ErrFull), seen(50, 9, c.code))
		text := answerTextPlainly(usual, g, "ACME", seen(50, 9, c.code), c.place)
		want.Gate.Outbox = slices.Insert(want.Gate.Outbox, 2, impl.Out{Partner: "ACME", Number: 9, Text: text, Due: 4})
		sameTaken(t, c.what, out, want)
		ack := "ACK+" + number(c.code) + "+50+" + number(c.place) + "'"
		same(t, c.what, strings.Count(out.Gate.Outbox[2].Text, "DOC+A50+4'"+ack), 1)
	}
}

// Promise 18, over every text that is one byte away from a right one.
func TestTextsOneByteAwayFromARightOne(t *testing.T) {
	g, codes := busyDock(), map[int64]int{}
	text := sending("ACME", 8, "order PO-9: 1 X1 5", "sent PO-1: 1 9", "heard A1: 0 5")
	for at := range len(text) {
		check := func(changed string) { codes[checkTaken(t, g, changed).Code]++ }
		check(text[:at])
		check(text[:at] + text[at+1:])
		for _, b := range "'+:?1357A" {
			check(text[:at] + string(b) + text[at:])
			check(text[:at] + string(b) + text[at+1:])
		}
	}
	for _, code := range []int64{impl.OK, impl.ErrSyntax, impl.ErrShort, impl.ErrSum, impl.ErrNone, impl.ErrPartner, impl.ErrThere} {
		same(t, "met the code "+number(code), codes[code] > 0, true)
	}
}

// The answer is told by the marks of the text, whatever they are.
func TestAnswersByTheTextsOwnSyntax(t *testing.T) {
	for _, s := range syntaxes {
		p := impl.Parcel{From: "ACME", To: "DOCK", Number: 50, Papers: papersBy("order PO-9: 1 X1 5", "sent PO-9: 1 9")}
		text := parcelTextPlainly(s, p)
		out := checkTaken(t, busyDock(), text)
		same(t, "taken", out.Gate.Outbox[2].Text, answerTextPlainly(s, busyDock(), "ACME", seen(50, 9, 0), 0))
		short := checkTaken(t, busyDock(), text[:strings.LastIndex(text, "IXT")])
		same(t, "refused", short.Gate.Outbox[2].Text, answerTextPlainly(s, busyDock(), "ACME", seen(50, 9, impl.ErrShort), 14))
	}
}

// Differences stand behind those that were there; where there is no place for all, nothing is booked.
func TestTheMostDifferences(t *testing.T) {
	for _, size := range []int{0, 1, 197, 198, 199, 200} {
		for _, papers := range [][]string{
			{"order PO-9: 1 X1 5"}, {"stock K-1: X1 9"}, {"order PO-9: 1 X1 5", "stock K-1: X1 9, AXLE 3"}, {"sent PO-1: 1 100, 3 100", "stock K-1: X1 9"}, {"heard A1: 0 5", "stock K-1: X1 9"},
		} {
			g := busyDock()
			g.Diffs = slices.Repeat([]impl.Diff{{Kind: 99, Ref: "any"}}, size)
			text := sending("ACME", 50, papers...)
			more := len(impl.BookPapers(g.Book, g.Crosses, "ACME", papersBy(papers...)).Diffs)
			out := checkTaken(t, g, text)
			same(t, "new", []int64{out.Kind, out.Answer}, []int64{impl.TakeNew, 9})
			if size+more <= 200 {
				same(t, "taken", []int64{out.Code, int64(len(out.Gate.Diffs))}, []int64{impl.OK, int64(size + more)})
				same(t, "behind the others", slices.Equal(out.Gate.Diffs[:size], g.Diffs), true)
				continue
			}
			same(t, "full", []int64{out.Code, out.At, out.Number}, []int64{impl.ErrFull, 0, 0})
			at := placePlainly(out.Gate.Outbox, "ACME", 9)
			same(t, "no place", out.Gate.Outbox[at].Text, answerTextPlainly(usual, g, "ACME", seen(50, 9, impl.ErrFull), 0))
			same(t, "nothing is heard", len(out.Gate.Outbox), len(g.Outbox)+1)
		}
	}
	g := busyDock()
	g.Diffs = make([]impl.Diff, 200)
	bad := checkTaken(t, g, sending("ACME", 50, "stock K-1: X1 9", "sent PO-9: 1 1"))
	same(t, "a fault of the booking comes ahead", bad.Code, int64(impl.ErrNone))
}

// Where no number of our own is left, nothing is taken, whatever the text is and whatever else is full.
func TestTheLastNumber(t *testing.T) {
	texts := []string{sending("ACME", 50, "order PO-9: 1 X1 5"), sending("ACME", 50, "heard A1: 0 5"), sending("ACME", 50, "order PO-1: 1 X1 5"), spoilt("ACME", 50), "SYN'+:?IXH+ACME+DOCK+50'"}
	for _, text := range texts {
		g := busyDock()
		g.Partners[0].Next = impl.MaxNumber
		want := impl.GateOut{Gate: g, Partner: "ACME", Code: impl.ErrState}
		sameTaken(t, "no number is left", checkTaken(t, g, text), want)
		g.Outbox, g.Diffs = manyOuts(60), make([]impl.Diff, 200)
		want.Gate = g
		sameTaken(t, "ahead of a full outbox", checkTaken(t, g, text), want)
		g = busyDock()
		g.Partners[0].Next = impl.MaxNumber - 1
		out := checkTaken(t, g, text)
		same(t, "one is left", []int64{out.Kind, out.Answer, out.Gate.Partners[0].Next}, []int64{impl.TakeNew, 999998, 999999})
		same(t, "of that Partner alone", checkTaken(t, out.Gate, sending("C-1", 50, "order PO-9: 1 X1 5")).Kind, int64(impl.TakeNew))
	}
}

// Where the answer has no place in the outbox, nothing is taken; no kind and no place of a fault is told.
func TestAFullOutbox(t *testing.T) {
	texts := []string{sending("ACME", 50, "order PO-9: 1 X1 5"), sending("ACME", 50, "order PO-1: 1 X1 5"), sending("ACME", 50, "heard A1: 0 3", "order PO-9: 1 X1 5"), spoilt("ACME", 50), "SYN'+:?IXH+ACME+DOCK+50'"}
	for _, text := range texts {
		g := busyDock()
		g.Outbox = manyOuts(60)
		want := impl.GateOut{Gate: g, Partner: "ACME", Code: impl.ErrFull}
		sameTaken(t, "full", checkTaken(t, g, text), want)
		g.Outbox = manyOuts(60)[1:]
		out := checkTaken(t, g, text)
		same(t, "one place is left", []int64{out.Kind, out.Answer, int64(len(out.Gate.Outbox))}, []int64{impl.TakeNew, 9, 60})
		g = busyDock()
		g.Outbox = outs("ACME 9 0 4")
		sameTaken(t, "its place is taken", checkTaken(t, g, text), impl.GateOut{Gate: g, Partner: "ACME", Code: impl.ErrFull})
		g.Outbox = outs("ACME 8 0 4", "ACME 10 0 4", "C-1 9 0 4")
		same(t, "others' places are", len(checkTaken(t, g, text).Gate.Outbox), 4)
	}
}

// What is heard makes place first, and is heard though all is full; but not where the Parcel is refused.
func TestWhatIsHeardLeavesTheOutbox(t *testing.T) {
	full := busyDock()
	full.Outbox = manyOuts(60)
	same(t, "one of ACME is the first", full.Outbox[0].Partner+number(full.Outbox[0].Number), "ACME95")
	out := checkTaken(t, full, sending("ACME", 50, "order PO-9: 1 X1 5", "heard A1: 0 95"))
	same(t, "in its place", []int64{out.Code, out.Kind, int64(len(out.Gate.Outbox)), out.Gate.Outbox[0].Number}, []int64{impl.OK, impl.TakeNew, 60, 9})
	for _, c := range []struct {
		papers string
		left   string
	}{
		{"heard A1: 0 95", "96 97 98"}, {"heard A1: 13 97", "95 96 98"}, {"heard A1: 0 95, 0 96", ""}, {"heard A1: 0 94", "95 96 97"}, {"heard A1: 0 0", "95 96 97"},
		{"heard A1: 0 1000000000", "95 96 97"}, {"heard A1: 0 95|heard A2: 0 96", "97 98 99"}, {"heard A1: 0 95|heard A1: 0 95", "96 97 98"}, {"heard A1: 1000000000 96", "95 97 98"},
	} {
		text := sending("ACME", 50, strings.Split(c.papers, "|")...)
		out := checkTaken(t, full, text)
		if c.left == "" {
			same(t, "two lines", out.Code, int64(impl.ErrFull))
			continue
		}
		var left []string
		for _, o := range out.Gate.Outbox[:3] {
			left = append(left, number(o.Number))
		}
		same(t, c.papers, strings.Join(left, " "), c.left)
		same(t, "told", []int64{out.Code, out.Kind, out.Answer}, []int64{impl.OK, impl.TakeNew, 9})
		same(t, "a number is used", out.Gate.Partners[0].Next, int64(10))
	}
	g := busyDock()
	sameOuts(t, "of that Partner alone", checkTaken(t, g, sending("ACME", 50, "heard A1: 0 5")).Gate.Outbox, outs("ACME 7 0 4", "C-1 1 5 2", "C-1 5 2 3"))
	sameOuts(t, "of that Partner alone", checkTaken(t, g, sending("C-1", 50, "heard A1: 0 5")).Gate.Outbox, outs("ACME 5 1 7", "ACME 7 0 4", "C-1 1 5 2"))
	refused := checkTaken(t, g, sending("ACME", 50, "heard A1: 0 5", "order PO-1: 1 X1 5"))
	same(t, "not where it is refused", placePlainly(refused.Gate.Outbox, "ACME", 5), 0)
	g.Outbox = outs("ACME 9 0 4")
	out = checkTaken(t, g, sending("ACME", 50, "heard A1: 0 9", "order PO-9: 1 X1 5"))
	same(t, "its own number's place", []any{out.Code, out.Gate.Outbox[0].Text}, []any{int64(impl.OK), answerTextPlainly(usual, g, "ACME", seen(50, 9, 0), 0)})
}

// Promise 20: day after day, till all is heard or lost, and on the last day.
func TestDaysOfAGate(t *testing.T) {
	for _, g := range rightGates() {
		first := g.Day
		for on := range int64(60) {
			same(t, "the day", g.Day, min(first+on, impl.MaxDay))
			g = checkDayOn(t, g)
		}
	}
	g := checkTaken(t, dock(), sending("ACME", 7, "order PO-1: 1 X1 5")).Gate
	var sent []int64
	for range 60 {
		if len(impl.GateDay(g).Sent) > 0 {
			sent = append(sent, g.Day)
		}
		g = checkDayOn(t, g)
	}
	sameDays(t, "sent", sent, []int64{0, 3, 9, 18, 30})
	sameOuts(t, "lost", g.Outbox, nil)
	last := busyDock()
	last.Day = impl.MaxDay
	sameGate(t, "there is no day behind the last one", checkDayOn(t, last), last)
	same(t, "but it has its own", len(impl.GateDay(last).Sent), 3)
	last.Day--
	same(t, "the last but one", checkDayOn(t, last).Day, int64(impl.MaxDay))
	late := checkTaken(t, last, sending("ACME", 50, "order PO-9: 1 X1 5")).Gate
	same(t, "due at once", late.Outbox[2].Due, last.Day)
}

// freshGate gives a gate like g in memory of its own, with places behind each list that nobody is to write to.
func freshGate(g impl.Gate) impl.Gate {
	g.Name = strings.Clone(g.Name)
	partners := make([]impl.Partner, 0, len(g.Partners)+9)
	for _, p := range g.Partners {
		p.Name, p.Seen = strings.Clone(p.Name), append(make([]impl.Seen, 0, len(p.Seen)+9), p.Seen...)
		partners = append(partners, p)
	}
	crosses := make([]impl.Cross, 0, len(g.Crosses)+9)
	for _, c := range g.Crosses {
		crosses = append(crosses, cross(strings.Clone(c.Partner), strings.Clone(c.Theirs), strings.Clone(c.Own)))
	}
	diffs := make([]impl.Diff, 0, len(g.Diffs)+9)
	for _, d := range g.Diffs {
		d.Partner, d.Ref, d.Item = strings.Clone(d.Partner), strings.Clone(d.Ref), strings.Clone(d.Item)
		diffs = append(diffs, d)
	}
	g.Partners, g.Crosses, g.Diffs, g.Book, g.Outbox = partners, crosses, diffs, freshBook(g.Book), freshOuts(g.Outbox)
	return g
}

// textsOfGate gives all texts of a gate, those of each list apart.
func textsOfGate(g impl.Gate) [][]string {
	booked := textsOfBooked(impl.BookOut{Book: g.Book, Diffs: g.Diffs})
	all := [][]string{{g.Name}, nil, nil, textsOfOutbox(impl.OutboxOut{List: g.Outbox})[0]}
	for _, p := range g.Partners {
		all[1] = append(all[1], p.Name)
	}
	for _, c := range g.Crosses {
		all[2] = append(all[2], c.Partner, c.Theirs, c.Own)
	}
	return append(all, booked[:]...)
}

// spoilGate writes into each list of a gate, and behind it.
func spoilGate(g impl.Gate) {
	for at := range g.Partners {
		clear(g.Partners[at].Seen)
		_ = append(g.Partners[at].Seen, impl.Seen{Number: 1})
	}
	clear(g.Partners)
	clear(g.Crosses)
	clear(g.Book.Stocks)
	clear(g.Book.Lines)
	clear(g.Diffs)
	clear(g.Outbox)
	_, _, _ = append(g.Partners, impl.Partner{Low: 1}), append(g.Crosses, impl.Cross{Own: "A"}), append(g.Diffs, impl.Diff{No: 1})
	_, _, _ = append(g.Book.Stocks, impl.Stock{Hand: 1}), append(g.Book.Lines, impl.OrderLine{No: 1}), append(g.Outbox, impl.Out{Number: 1})
}

// roomBehind gives what stands behind the lists of a fresh gate.
func roomBehind(g impl.Gate) impl.Gate {
	behind := impl.Gate{
		Partners: g.Partners[len(g.Partners):cap(g.Partners)], Crosses: g.Crosses[len(g.Crosses):cap(g.Crosses)], Diffs: g.Diffs[len(g.Diffs):cap(g.Diffs)],
		Outbox: g.Outbox[len(g.Outbox):cap(g.Outbox)], Book: impl.Book{Stocks: g.Book.Stocks[len(g.Book.Stocks):cap(g.Book.Stocks)], Lines: g.Book.Lines[len(g.Book.Lines):cap(g.Book.Lines)]},
	}
	for _, p := range g.Partners {
		behind.Partners = append(behind.Partners, impl.Partner{Seen: p.Seen[len(p.Seen):cap(p.Seen)]})
	}
	return behind
}

// checkNewGate: shares an answer no memory with what was handed in, and no two of its lists with each other?
func checkNewGate(t *testing.T, g impl.Gate, given impl.Gate, handed string, answer impl.Gate) {
	t.Helper()
	told := textsOfGate(answer)
	all := append(slices.Concat(textsOfGate(g)...), handed)
	for at, texts := range told {
		same(t, "shared with what was handed in", sharesAny(texts, all), false)
		for _, others := range told[at+1:] {
			same(t, "shared with another list", sharesAny(texts, others), false)
		}
	}
	room := roomBehind(freshGate(given))
	spoilGate(answer)
	sameGate(t, "not changed", g, given)
	sameGate(t, "nothing behind it", roomBehind(g), room)
}

func TestGatesAreNewMemory(t *testing.T) {
	wrong := busyDock()
	wrong.Day = -1
	gates := []impl.Gate{busyDock(), dock(), wrong, {Name: "DOCK"}}
	texts := append(gateSteps(), sending("ACME", 50, "order PO-9: 1 X1 5, 2 ZIP 5", "sent PO-1: 1 9", "stock K-1: X1 9"), sending("ACME", 34, "heard A1: 0 7"), sending("ACME", 50, "heard A1: 0 7"), spoilt("C-1", 9), "")
	for _, given := range gates {
		g := freshGate(given)
		for range 2 {
			for _, one := range texts {
				text := strings.Clone(one)
				out := impl.GateTake(g, text)
				same(t, "the sender", sharesAny([]string{out.Partner}, append(slices.Concat(textsOfGate(g)...), text)), false)
				checkNewGate(t, g, given, text, out.Gate)
			}
			for _, one := range []string{"NEW", "A", "ACME", "x"} {
				name := strings.Clone(one)
				checkNewGate(t, g, given, name, impl.GatePartner(g, name).Gate)
			}
			checkNewGate(t, g, given, "", impl.GateNext(g))
			day := impl.GateDay(g)
			checkNewOutbox(t, g.Outbox, given.Outbox, nil, day)
			name := strings.Clone("DOCK")
			checkNewGate(t, g, given, name, impl.GateNew(name))
		}
	}
	last := freshGate(busyDock())
	last.Day = impl.MaxDay
	checkNewGate(t, last, freshGate(last), "", impl.GateNext(last))
}

// Nothing is kept from call to call: the same gate, asked by several at once, answers each alike.
func TestOneGateAskedBySeveral(t *testing.T) {
	g, texts := busyDock(), gateSteps()
	var group sync.WaitGroup
	outs, nexts := make([]impl.GateOut, 64), make([]impl.Gate, 64)
	for at := range outs {
		group.Go(func() {
			outs[at], nexts[at] = impl.GateTake(g, texts[at%len(texts)]), impl.GateNext(g)
		})
	}
	group.Wait()
	for at, out := range outs {
		sameTaken(t, "alike", out, takenPlainly(g, texts[at%len(texts)]))
		sameGate(t, "alike", nexts[at], impl.GateNext(g))
	}
	sameGate(t, "not changed", g, busyDock())
}
