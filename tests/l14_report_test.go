package tests

import (
	"fmt"
	"math"
	"slices"
	"strings"
	"sync"
	"testing"

	"loop.example/g00096/impl"
)

// stockTextPlainly goes through all of a book for each Item.
func stockTextPlainly(b impl.Book) string {
	text := ""
	for _, item := range itemsPlainly(b) {
		hand, open, transit := int64(0), int64(0), int64(0)
		for _, s := range b.Stocks {
			if s.Item == item {
				hand = s.Hand
			}
		}
		for _, l := range b.Lines {
			if l.Item == item {
				open, transit = open+l.Ordered-l.Sent-l.Cut, transit+l.Sent-l.Got
			}
		}
		text += fmt.Sprintf("%s hand %d ordered %d transit %d\n", item, hand, open, transit)
	}
	return text
}

// linesToTell gives the lines of a right book that a report tells: of some of them more is to come.
func linesToTell(b impl.Book, partner string) []impl.OrderLine {
	var told []impl.OrderLine
	for _, l := range b.Lines {
		if (partner == "" || partner == l.Partner) && l.Got+l.Cut < l.Ordered {
			told = append(told, l)
		}
	}
	if !bookPlainly(b) {
		return nil
	}
	return told
}

func linesTextPlainly(b impl.Book, partner string) string {
	text := ""
	for _, l := range linesToTell(b, partner) {
		text += fmt.Sprintf("%s %s %d %s ordered %d sent %d got %d cut %d\n", l.Partner, l.Ref, l.No, l.Item, l.Ordered, l.Sent, l.Got, l.Cut)
	}
	return text
}

func diffsTextPlainly(list []impl.Diff) string {
	var text strings.Builder
	for _, d := range list {
		fmt.Fprintf(&text, "%d %s %s %d %s %d\n", d.Kind, d.Partner, d.Ref, d.No, d.Item, d.Qty)
	}
	if len(list) > 400 {
		return ""
	}
	return text.String()
}

// ratePlainly looks for the last one of 0 to 100 that is not too much.
func ratePlainly(b impl.Book, partner string) int64 {
	if len(partner) > 20000 {
		return 0
	}
	got, ordered := int64(0), int64(0)
	for _, l := range b.Lines {
		if l.Partner == partner {
			got, ordered = got+l.Got, ordered+l.Ordered
		}
	}
	if !bookPlainly(b) {
		return -1
	}
	rate := int64(-1)
	for ordered > 0 && (rate+1)*ordered <= 100*got {
		rate++
	}
	return rate
}

func outboxTextPlainly(list []impl.Out) string {
	text := ""
	for _, o := range list {
		text += fmt.Sprintf("%s %d %d %d\n", o.Partner, o.Number, o.Tries, o.Due)
	}
	if !outboxPlainly(list) {
		return ""
	}
	return text
}

func gateTextPlainly(g impl.Gate) string {
	if !gatePlainly(g) {
		return ""
	}
	return fmt.Sprintf("day %d\n", g.Day) + stockTextPlainly(g.Book) + linesTextPlainly(g.Book, "") + diffsTextPlainly(g.Diffs) + outboxTextPlainly(g.Outbox)
}

// sameText holds two reports against each other, of which long ones are told in part.
func sameText(t *testing.T, what string, got string, want string) {
	t.Helper()
	if got != want {
		t.Errorf("%s: got %.400q, want %.400q", what, got, want)
	}
}

// rowsOf cuts a report into the words of its lines.
func rowsOf(t *testing.T, text string) [][]string {
	t.Helper()
	var rows [][]string
	for line := range strings.Lines(text) {
		same(t, "a line feed behind each line", strings.HasSuffix(line, "\n"), true)
		rows = append(rows, strings.Split(strings.TrimSuffix(line, "\n"), " "))
	}
	return rows
}

// checkStockRows is promise 21 of stocks: each Item has one line, with what chapter 11 tells of it.
func checkStockRows(t *testing.T, b impl.Book) {
	t.Helper()
	items, rows := impl.BookItems(b), rowsOf(t, impl.StockText(b))
	same(t, "a line for each Item", len(rows), len(items))
	for at, row := range rows {
		item := items[at]
		want := []string{item, "hand", number(impl.BookHand(b, item)), "ordered", number(impl.BookOrdered(b, "", item)), "transit", number(impl.BookTransit(b, "", item))}
		same(t, "the line of an Item", row, want)
	}
}

// checkLineRows is promise 21 of lines: each one that is open or in transit has one line, from which it
// comes back, and each Partner's lines stand among all, in their order.
func checkLineRows(t *testing.T, b impl.Book, partner string) {
	t.Helper()
	var back []impl.OrderLine
	for _, row := range rowsOf(t, impl.LinesText(b, partner)) {
		same(t, "twelve words", len(row), 12)
		same(t, "what they are", []string{row[4], row[6], row[8], row[10]}, []string{"ordered", "sent", "got", "cut"})
		l := impl.OrderLine{Partner: row[0], Ref: row[1], No: numberRead(row[2]), Item: row[3], Ordered: numberRead(row[5]), Sent: numberRead(row[7]), Got: numberRead(row[9]), Cut: numberRead(row[11])}
		same(t, "open or in transit", impl.LineOpen(l)+impl.LineTransit(l) > 0, true)
		back = append(back, l)
	}
	sameLines(t, "a line for each", back, linesToTell(b, partner))
}

// checkBookReports holds the reports of a book to chapter 15.
func checkBookReports(t *testing.T, b impl.Book, partner string) {
	t.Helper()
	sameText(t, "stock", impl.StockText(b), stockTextPlainly(b))
	sameText(t, "lines", impl.LinesText(b, partner), linesTextPlainly(b, partner))
	same(t, "rate", impl.RateOf(b, partner), ratePlainly(b, partner))
	checkStockRows(t, b)
	checkLineRows(t, b, partner)
}

// checkOutboxReport holds the report of an outbox to chapter 15, and is promise 21 of it: each Out of a right
// one has one line.
func checkOutboxReport(t *testing.T, list []impl.Out) {
	t.Helper()
	text := impl.OutboxText(list)
	sameText(t, "outbox", text, outboxTextPlainly(list))
	if impl.OutboxRight(list) {
		same(t, "a line for each Out", len(rowsOf(t, text)), len(list))
	} else {
		sameText(t, "none of a wrong one", text, "")
	}
}

// checkGateReport holds the report of a gate to chapter 15, and is promise 21 of it: a line for the day and
// for each thing of the other reports.
func checkGateReport(t *testing.T, g impl.Gate) {
	t.Helper()
	text := impl.GateText(g)
	sameText(t, "gate", text, gateTextPlainly(g))
	if !impl.GateRight(g) {
		sameText(t, "none of a wrong one", text, "")
		return
	}
	parts := impl.StockText(g.Book) + impl.LinesText(g.Book, "") + impl.DiffsText(g.Diffs) + impl.OutboxText(g.Outbox)
	sameText(t, "its parts", text, "day "+number(g.Day)+"\n"+parts)
	feeds := 0
	for _, d := range g.Diffs {
		feeds += strings.Count(impl.DiffText(d), "\n")
	}
	lines := 1 + len(impl.BookItems(g.Book)) + len(linesToTell(g.Book, "")) + len(g.Diffs) + len(g.Outbox)
	same(t, "a line for each thing", strings.Count(text, "\n")-feeds, lines)
}

// fullBook has as many Stocks and Lines as a right book may have, no two of one Item; each third line is done,
// or cut whole.
func fullBook() impl.Book {
	b := impl.Book{Stocks: manyStocks(impl.MaxItems), Lines: manyLines(impl.MaxOpen)}
	for at := range b.Lines {
		l := &b.Lines[at]
		l.Item = "L" + number(int64(2000-at))
		if at%3 == 0 {
			l.Got, l.Cut = l.Sent, l.Ordered-l.Sent
		}
	}
	return b
}

func TestSampleReports(t *testing.T) {
	b := sampleBook()
	sameText(t, "stock", impl.StockText(b), "AXLE hand 0 ordered 0 transit 0\nBOLT hand 5 ordered 7 transit 0\n"+
		"NUT hand 0 ordered 57 transit 53\nSCREW hand 1000000000 ordered 0 transit 0\nZIP hand 0 ordered 0 transit 1000000\n")
	acme := "ACME PO-1 1 NUT ordered 10 sent 4 got 1 cut 2\nACME PO-1 2 BOLT ordered 7 sent 0 got 0 cut 0\nACME PO-1 3 NUT ordered 100 sent 50 got 0 cut 0\n"
	other, last := "C-1 PO-1 1 NUT ordered 3 sent 0 got 0 cut 0\n", "DOCK PO-1 1 ZIP ordered 1000000 sent 1000000 got 0 cut 0\n"
	for partner, want := range map[string]string{
		"": acme + other + last, "ACME": acme, "C-1": other, "DOCK": last,
		"ACM": "", "ACMEX": "", "NUT": "", "PO-1": "", "acme": "", " ": "", "ACME C-1": "", "\x00": "",
	} {
		sameText(t, "lines of "+partner, impl.LinesText(b, partner), want)
		checkBookReports(t, b, partner)
	}
	for partner, want := range map[string]int64{"ACME": 0, "C-1": 72, "DOCK": 0, "": -1, "ACM": -1, "ACMEX": -1, "NUT": -1, "acme": -1} {
		same(t, "rate of "+partner, impl.RateOf(b, partner), want)
	}
	g := busyDock()
	sameText(t, "outbox", impl.OutboxText(g.Outbox), "ACME 5 1 7\nACME 7 0 4\nC-1 1 5 2\nC-1 5 2 3\n")
	diffs := "2 ACME PO-1 1 BOLT 2\n-7 nobody at all \n 0 \xff 4611686018427387904\n"
	sameText(t, "diffs", impl.DiffsText(g.Diffs), diffs)
	sameText(t, "gate", impl.GateText(g), "day 4\n"+impl.StockText(b)+acme+other+last+diffs+impl.OutboxText(g.Outbox))
	checkGateReport(t, g)
}

func TestReportsOfNothing(t *testing.T) {
	for _, b := range []impl.Book{{}, {Stocks: []impl.Stock{}, Lines: []impl.OrderLine{}}} {
		sameText(t, "stock", impl.StockText(b), "")
		for _, partner := range []string{"", "ACME", "x"} {
			sameText(t, "lines", impl.LinesText(b, partner), "")
			same(t, "rate", impl.RateOf(b, partner), int64(-1))
		}
		sameText(t, "the day alone", impl.GateText(impl.Gate{Name: "DOCK", Day: 100000, Book: b}), "day 100000\n")
	}
	sameText(t, "no Diffs", impl.DiffsText(nil), "")
	sameText(t, "no Diffs", impl.DiffsText([]impl.Diff{}), "")
	sameText(t, "no Outs", impl.OutboxText(nil), "")
	sameText(t, "no Outs", impl.OutboxText([]impl.Out{}), "")
	sameText(t, "a new gate", impl.GateText(impl.GateNew("DOCK")), "day 0\n")
	sameText(t, "no gate", impl.GateText(impl.Gate{}), "")
}

// Every line of small numbers, right or not: it is told just where something is open or in transit.
func TestReportsOfEveryLine(t *testing.T) {
	told := 0
	for ordered := int64(0); ordered <= 6; ordered++ {
		for sent := int64(-1); sent <= ordered+1; sent++ {
			for got := int64(-1); got <= sent+1; got++ {
				for cut := int64(-1); cut <= ordered+1; cut++ {
					l := counts(ordered, sent, got, cut)
					b := impl.Book{Stocks: stocks("NUT 3"), Lines: []impl.OrderLine{l}}
					checkBookReports(t, b, "ACME")
					text := impl.LinesText(b, "")
					same(t, "open or in transit", text != "", impl.LineOpen(l) > 0 || impl.LineTransit(l) > 0)
					same(t, "right", impl.StockText(b) != "", impl.LineRight(l))
					same(t, "a rate", impl.RateOf(b, "ACME") >= 0, impl.LineRight(l))
					told += strings.Count(text, "\n")
				}
			}
		}
	}
	same(t, "some are told", told > 100, true)
}

// Every list of up to four lines and every Partner; the Partners' lines together are those of all.
func TestReportsOfEveryShortBook(t *testing.T) {
	few := []impl.OrderLine{
		lineOf("A", 1, "X", 10, 4, 1, 2), lineOf("A", 2, "Y", 20, 20, 20, 0), lineOf("A", 3, "X", 300, 0, 0, 300),
		lineOf("B", 1, "X", 4000, 1000, 1000, 0), lineOf("B", 2, "Y", 50000, 10000, 0, 40000), lineOf("B", 3, "Y", 5, 6, 0, 0),
	}
	rights := 0
	for _, text := range textsOf("012345", 4) {
		b := impl.Book{Stocks: stocks("W 1", "Y 2")}
		for at := range len(text) {
			b.Lines = append(b.Lines, few[text[at]-'0'])
		}
		for _, partner := range []string{"", "A", "B", "C", "a"} {
			checkBookReports(t, b, partner)
		}
		sameText(t, "of each Partner", impl.LinesText(b, "A")+impl.LinesText(b, "B"), impl.LinesText(b, ""))
		checkGateReport(t, impl.Gate{Name: "DOCK", Book: b})
		if impl.StockText(b) != "" {
			rights++
		}
	}
	// Each set of up to four of the five right ones, in its one order.
	same(t, "rights", rights, 1+5+10+10+5)
}

// Rates are rounded down, over all of a Partner's lines at once, those that are done among them.
func TestRates(t *testing.T) {
	for _, want := range []struct{ ordered, got, rate int64 }{
		{1, 0, 0}, {1, 1, 100}, {3, 1, 33}, {3, 2, 66}, {3, 3, 100}, {7, 6, 85}, {200, 1, 0}, {200, 199, 99}, {101, 1, 0}, {100, 1, 1},
		{1000000, 0, 0}, {1000000, 9999, 0}, {1000000, 10000, 1}, {1000000, 989999, 98}, {1000000, 999999, 99}, {1000000, 1000000, 100},
	} {
		l := counts(want.ordered, want.got, want.got, 0)
		same(t, fmt.Sprint(want), impl.RateOf(impl.Book{Lines: []impl.OrderLine{l}}, "ACME"), want.rate)
	}
	// What is sent or cut is not got.
	for _, l := range []impl.OrderLine{counts(10, 10, 0, 0), counts(10, 0, 0, 10), counts(10, 5, 0, 5)} {
		same(t, "nothing got", impl.RateOf(impl.Book{Lines: []impl.OrderLine{l}}, "ACME"), int64(0))
	}
	b := impl.Book{Lines: []impl.OrderLine{lineOf("ACME", 1, "X", 1, 1, 1, 0), lineOf("ACME", 2, "Y", 199, 0, 0, 199), lineOf("C-1", 1, "X", 7, 7, 7, 0)}}
	same(t, "not the mean of both", impl.RateOf(b, "ACME"), int64(0))
	same(t, "a Partner alone", impl.RateOf(b, "C-1"), int64(100))
	same(t, "nobody stands for all", impl.RateOf(b, ""), int64(-1))
	most := impl.Book{Lines: manyLines(impl.MaxOpen)}
	for at := range most.Lines {
		l := &most.Lines[at]
		l.Partner, l.Ordered, l.Sent, l.Got = "ACME", impl.MaxQty, impl.MaxQty, impl.MaxQty
	}
	same(t, "the greatest sums", impl.RateOf(most, "ACME"), int64(100))
	most.Lines[impl.MaxOpen-1].Got--
	same(t, "one piece less", impl.RateOf(most, "ACME"), int64(99))
}

func TestReportsOfTheMost(t *testing.T) {
	b := fullBook()
	same(t, "right", impl.BookRight(b), true)
	for _, partner := range []string{"", "ACME", "C-1", "DOCK", "NONE"} {
		checkBookReports(t, b, partner)
	}
	same(t, "all Items", len(rowsOf(t, impl.StockText(b))), impl.MaxItems+impl.MaxOpen)
	// Of 200 lines each third one, from the first on, is done.
	same(t, "all lines of which more is to come", len(rowsOf(t, impl.LinesText(b, ""))), 133)
	for at := range b.Lines {
		b.Lines[at] = impl.OrderLine{Partner: b.Lines[at].Partner, Ref: b.Lines[at].Ref, No: b.Lines[at].No, Item: "BOLT", Ordered: impl.MaxQty}
	}
	b.Stocks = []impl.Stock{{Item: "BOLT", Hand: impl.MaxStock}}
	sameText(t, "the greatest numbers", impl.StockText(b), "BOLT hand 1000000000 ordered 200000000 transit 0\n")
	for at := range b.Lines {
		b.Lines[at].Sent = impl.MaxQty
	}
	sameText(t, "the greatest numbers", impl.StockText(b), "BOLT hand 1000000000 ordered 0 transit 200000000\n")
	same(t, "all are in transit", len(rowsOf(t, impl.LinesText(b, ""))), impl.MaxOpen)
	for _, g := range rightGates() {
		checkGateReport(t, g)
	}
	// An answer has no limit: this one has more than MaxBytes bytes.
	g := rightGates()[4]
	g.Book, g.Diffs = fullBook(), slices.Repeat([]impl.Diff{diff(impl.DiffStock, "ABCDEFGHIJKL", 999, "ABCDEFGHIJKL", -1000000)}, impl.MaxDiffs)
	checkGateReport(t, g)
	same(t, "a long one", len(impl.GateText(g)) > impl.MaxBytes, true)
}

// One too many, each in its place: nothing is told.
func TestReportsOfTooMany(t *testing.T) {
	for n := 98; n <= 102; n++ {
		b := impl.Book{Stocks: manyStocks(n)}
		checkBookReports(t, b, "")
		same(t, "Stocks", impl.StockText(b) != "", n <= impl.MaxItems)
		same(t, "in a gate", impl.GateText(impl.Gate{Name: "DOCK", Book: b}) != "", n <= impl.MaxItems)
	}
	for n := 198; n <= 202; n++ {
		b := impl.Book{Lines: manyLines(n)}
		checkBookReports(t, b, "ACME")
		same(t, "Lines", impl.LinesText(b, "") != "", n <= impl.MaxOpen)
		same(t, "a rate", impl.RateOf(b, "ACME") >= 0, n <= impl.MaxOpen)
		diffs := make([]impl.Diff, n)
		same(t, "Diffs have no such limit", impl.DiffsText(diffs), strings.Repeat("0   0  0\n", n))
		same(t, "but those of a gate", impl.GateText(impl.Gate{Name: "DOCK", Diffs: diffs}) != "", n <= impl.MaxDiffs)
	}
	for n := 58; n <= 62; n++ {
		checkOutboxReport(t, manyOuts(n))
		same(t, "Outs", len(rowsOf(t, impl.OutboxText(manyOuts(n)))) == n, n <= impl.MaxOut)
		same(t, "in a gate", impl.GateText(impl.Gate{Name: "DOCK", Outbox: manyOuts(n)}) != "", n <= impl.MaxOut)
	}
	for _, n := range []int{399, 400, 401, 402, 1000} {
		checkOutboxReport(t, manyOuts(n))
		list := slices.Repeat([]impl.Diff{diff(impl.DiffSent, "PO-1", 1, "BOLT", 2)}, n)
		sameText(t, "Diffs", impl.DiffsText(list), diffsTextPlainly(list))
		same(t, "Diffs", impl.DiffsText(list) != "", n <= impl.MaxList)
	}
}

func TestReportsOfWrongThings(t *testing.T) {
	for _, b := range wrongBooks() {
		sameText(t, "stock", impl.StockText(b), "")
		for _, partner := range []string{"", "ACME", "C-1", "DOCK", "NONE"} {
			sameText(t, "lines", impl.LinesText(b, partner), "")
			same(t, "rate", impl.RateOf(b, partner), int64(-1))
		}
		g := dock()
		g.Book = b
		checkGateReport(t, g)
	}
	for _, list := range wrongOutboxes() {
		checkOutboxReport(t, list)
		sameText(t, "outbox", impl.OutboxText(list), "")
	}
	for _, o := range edgeOuts() {
		checkOutboxReport(t, []impl.Out{o})
	}
	for _, g := range wrongGates() {
		checkGateReport(t, g)
		sameText(t, "gate", impl.GateText(g), "")
	}
	for _, day := range []int64{-1, 0, 1, 9, 10, 99999, 100000, 100001, math.MinInt64, math.MaxInt64} {
		checkGateReport(t, impl.Gate{Name: "DOCK", Day: day})
	}
}

// A text that is handed in has a limit, ahead of which nothing is looked at; what is too long is refused with
// the zero answer, which of a rate is 0.
func TestPartnersAskedOfReports(t *testing.T) {
	long := strings.Repeat("A", impl.MaxBytes)
	for _, b := range append(wrongBooks(), sampleBook(), fullBook(), impl.Book{}) {
		sameText(t, "nobody", impl.LinesText(b, long), "")
		same(t, "nobody", impl.RateOf(b, long), int64(-1))
		sameText(t, "too long", impl.LinesText(b, long+"A"), "")
		same(t, "too long", impl.RateOf(b, long+"A"), int64(0))
	}
	for _, name := range wrongNames {
		for _, b := range []impl.Book{sampleBook(), {}, fullBook()} {
			checkBookReports(t, b, name)
		}
	}
}

// Diffs are told whatever they are: no chapter asks them to be right.
func TestReportsOfAnyDiffs(t *testing.T) {
	long := strings.Repeat("A", impl.MaxBytes+1)
	few := []impl.Diff{
		{}, diff(impl.DiffAdjust, "J-1", 0, "NUT", -1000000), {Kind: math.MinInt64, Partner: "a b", Ref: "\n", No: math.MaxInt64, Item: "\xff", Qty: -1},
		{Kind: 1, Partner: long, Ref: "R", No: 1, Item: "\x00", Qty: math.MinInt64}, {Kind: 4, Partner: " ", Ref: "\n\n", Item: "Ä"},
	}
	for _, text := range textsOf("01234", 3) {
		var list []impl.Diff
		want := ""
		for at := range len(text) {
			d := few[text[at]-'0']
			list = append(list, d)
			want += impl.DiffText(d) + "\n"
		}
		sameText(t, "Diffs", impl.DiffsText(list), want)
		sameText(t, "plainly", impl.DiffsText(list), diffsTextPlainly(list))
		g := dock()
		g.Diffs = list
		checkGateReport(t, g)
	}
}

// Every run of three texts and days: the report tells the gate behind each step.
func TestReportsOfEveryShortRun(t *testing.T) {
	reports := map[string]int{}
	var walk func(g impl.Gate, deep int)
	walk = func(g impl.Gate, deep int) {
		checkGateReport(t, g)
		reports[impl.GateText(g)]++
		if deep == 0 {
			return
		}
		for _, text := range gateSteps() {
			walk(impl.GateTake(g, text).Gate, deep-1)
		}
		walk(impl.GateNext(g), deep-1)
	}
	walk(dock(), 3)
	same(t, "many unlike ones", len(reports) > 100, true)
}

// A report changes nothing of what it tells, and shares no memory with it.
func TestReportsAreNewMemory(t *testing.T) {
	wrong := busyDock()
	wrong.Day = -1
	for _, given := range []impl.Gate{busyDock(), dock(), wrong, {Name: "DOCK"}, rightGates()[4]} {
		g, partner := freshGate(given), strings.Clone("ACME")
		handed := append(slices.Concat(textsOfGate(g)...), partner)
		room := roomBehind(freshGate(given))
		texts := []string{impl.StockText(g.Book), impl.LinesText(g.Book, partner), impl.LinesText(g.Book, ""), impl.DiffsText(g.Diffs), impl.OutboxText(g.Outbox), impl.GateText(g)}
		impl.RateOf(g.Book, partner)
		for _, text := range texts {
			same(t, "shared", sharesAny([]string{text}, handed) || sharesAny(handed, []string{text}), false)
		}
		sameGate(t, "not changed", g, given)
		sameGate(t, "nothing behind it", roomBehind(g), room)
	}
}

// Nothing is kept from call to call: the same gate, asked by several at once, answers each alike.
func TestOneGateReportedToSeveral(t *testing.T) {
	g := busyDock()
	want := gateTextPlainly(g)
	var group sync.WaitGroup
	texts := make([]string, 64)
	for at := range texts {
		group.Go(func() { texts[at] = impl.GateText(g) })
	}
	group.Wait()
	for _, text := range texts {
		sameText(t, "alike", text, want)
	}
}
