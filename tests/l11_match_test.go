package tests

import (
	"math"
	"math/big"
	"slices"
	"strings"
	"testing"

	"loop.example/g00096/impl"
)

// paperWords are the words for the kinds of papers that paperBy knows.
var paperWords = []string{"order", "answer", "sent", "got", "stock", "adjust", "heard"}

// paperBy gives a paper told as "order PO-1: 1 BOLT 5, 2 NUT 3" and the like. The name is the Other of an
// answer and of what is sent and got, and the Ref else; a line has its No and its Item, where its kind has
// them, and its Qty.
func paperBy(text string) impl.Paper {
	head, rest, _ := strings.Cut(text, ": ")
	word, name, _ := strings.Cut(head, " ")
	p := impl.Paper{Kind: int64(slices.Index(paperWords, word)) + 1, Ref: name}
	if hasTwoNames(p.Kind) {
		p.Ref, p.Other = "X-9", name
	}
	for _, line := range strings.Split(rest, ", ") {
		words := strings.Split(line, " ")
		l := impl.Line{Qty: numberRead(words[len(words)-1])}
		if p.Kind != 5 && p.Kind != 6 {
			l.No = numberRead(words[0])
		}
		if hasItems(p.Kind) {
			l.Item = words[len(words)-2]
		}
		p.Lines = append(p.Lines, l)
	}
	return p
}

func papersBy(texts ...string) []impl.Paper {
	var all []impl.Paper
	for _, text := range texts {
		all = append(all, paperBy(text))
	}
	return all
}

// diff gives one of ACME.
func diff(kind int64, ref string, no int64, item string, qty int64) impl.Diff {
	return impl.Diff{Kind: kind, Partner: "ACME", Ref: ref, No: no, Item: item, Qty: qty}
}

// acmeCrosses: two items have other names with ACME; DOCK gives one of these names to another one.
func acmeCrosses() []impl.Cross {
	return crossOfWords("ACME X1 BOLT", "ACME X2 NUT", "DOCK X1 SCREW")
}

// bookedPlainly books as chapter 12 says, line by line, on the plain tellings of the chapters ahead.
func bookedPlainly(b impl.Book, crosses []impl.Cross, partner string, p impl.Paper) impl.BookOut {
	if len(crosses) > 400 || len(partner) > 20000 {
		return impl.BookOut{Code: 2}
	}
	if !bookPlainly(b) || !crossPlainly(crosses) || !plainName(partner) || !rightPlainly(p) {
		return impl.BookOut{Code: 1}
	}
	if p.Kind == 1 {
		for _, l := range b.Lines {
			if l.Partner == partner && l.Ref == p.Ref {
				return impl.BookOut{Code: 11}
			}
		}
		if len(b.Lines)+len(p.Lines) > 200 {
			return impl.BookOut{Code: 12}
		}
	}
	out := impl.BookOut{Book: impl.Book{Stocks: b.Stocks, Lines: slices.Clone(b.Lines)}}
	for at, l := range p.Lines {
		if code := lineBookedPlainly(&out, crosses, partner, p, l); code != 0 {
			return impl.BookOut{At: int64(at), Code: code}
		}
	}
	return out
}

// lineBookedPlainly books one line, and tells its code.
func lineBookedPlainly(out *impl.BookOut, crosses []impl.Cross, partner string, p impl.Paper, l impl.Line) int64 {
	own := ownPlainly(crosses, partner, l.Item)
	switch p.Kind {
	case 1:
		line := impl.OrderLine{Partner: partner, Ref: p.Ref, No: l.No, Item: own, Ordered: l.Qty}
		out.Book.Lines = addPlainly(out.Book.Lines, line)
	case 2, 3, 4:
		return postedPlainly(out, partner, p, l)
	case 5:
		if hand := handPlainly(out.Book, own); hand != l.Qty {
			out.Diffs = append(out.Diffs, impl.Diff{Kind: 4, Partner: partner, Ref: p.Ref, Item: own, Qty: l.Qty - hand})
		}
	case 6:
		hand, by, rest := handPlainly(out.Book, own), l.Qty, int64(0)
		for hand+by < 0 {
			by, rest = by+1, rest-1
		}
		behind := movePlainly(out.Book, own, by)
		if l.Qty > 0 && slices.Equal(behind.Stocks, out.Book.Stocks) {
			return 12
		}
		out.Book = behind
		if rest < 0 {
			out.Diffs = append(out.Diffs, impl.Diff{Kind: 5, Partner: partner, Ref: p.Ref, Item: own, Qty: rest})
		}
	}
	return 0
}

func postedPlainly(out *impl.BookOut, partner string, p impl.Paper, l impl.Line) int64 {
	for at, line := range out.Book.Lines {
		if line.Partner != partner || line.Ref != p.Other || line.No != l.No {
			continue
		}
		post := postPlainly(line, p.Kind-1, l.Qty)
		out.Book.Lines[at] = post.Line
		if post.Over > 0 {
			out.Diffs = append(out.Diffs, impl.Diff{Kind: p.Kind - 1, Partner: partner, Ref: line.Ref, No: line.No, Item: line.Item, Qty: post.Over})
		}
		if p.Kind != 4 {
			return 0
		}
		behind := movePlainly(out.Book, line.Item, post.Fit)
		if post.Fit > 0 && slices.Equal(behind.Stocks, out.Book.Stocks) {
			return 12
		}
		out.Book = behind
		return 0
	}
	return 6
}

// sameBooked holds two answers against each other, of the papers that are named, if any are; an empty list
// and none are the same.
func sameBooked(t *testing.T, what string, got impl.BookOut, want impl.BookOut, of ...impl.Paper) {
	t.Helper()
	alike := slices.Equal(got.Book.Stocks, want.Book.Stocks) && slices.Equal(got.Book.Lines, want.Book.Lines)
	if !alike || !slices.Equal(got.Diffs, want.Diffs) || got.At != want.At || got.Code != want.Code {
		t.Errorf("%s: got %s, want %s; of %s", what, short(got), short(want), short(of))
	}
}

// checkBooked holds the booking of a paper to the plain one, and, where it is booked, to the promises.
func checkBooked(t *testing.T, b impl.Book, crosses []impl.Cross, partner string, p impl.Paper) impl.BookOut {
	t.Helper()
	out := impl.BookPaper(b, crosses, partner, p)
	sameBooked(t, "booked", out, bookedPlainly(b, crosses, partner, p), p)
	if out.Code == impl.OK {
		same(t, "right behind it", impl.BookRight(out.Book), true)
		checkPosted(t, b, partner, p, out)
		checkAccounts(t, b, crosses, partner, p, out)
	} else {
		sameBooked(t, "nothing beside the code", out, impl.BookOut{At: out.At, Code: out.Code})
	}
	return out
}

// lineIn gives the line of that partner, Ref and No.
func lineIn(b impl.Book, partner string, ref string, no int64) impl.OrderLine {
	for _, l := range b.Lines {
		if l.Partner == partner && l.Ref == ref && l.No == no {
			return l
		}
	}
	return impl.OrderLine{}
}

// checkPosted is promise 12, line by line: what came to the line, and what is told as over, is the Qty;
// and nothing is over as long as more would fit.
func checkPosted(t *testing.T, b impl.Book, partner string, p impl.Paper, out impl.BookOut) {
	t.Helper()
	if !hasTwoNames(p.Kind) {
		return
	}
	told := 0
	for _, l := range p.Lines {
		was, is := lineIn(b, partner, p.Other, l.No), lineIn(out.Book, partner, p.Other, l.No)
		came := []int64{is.Cut - was.Cut, is.Sent - was.Sent, is.Got - was.Got}
		fit, over := came[p.Kind-2], l.Qty-came[p.Kind-2]
		came[p.Kind-2] = 0
		same(t, "nothing else is posted", came, []int64{0, 0, 0})
		same(t, "the line's own", []any{is.Item, is.Ordered}, []any{was.Item, was.Ordered})
		if fit < 0 || over < 0 {
			t.Errorf("of %d pieces %d fit and %d are over", l.Qty, fit, over)
		}
		if over == 0 {
			continue
		}
		want := impl.Diff{Kind: p.Kind - 1, Partner: partner, Ref: p.Other, No: l.No, Item: was.Item, Qty: over}
		if told >= len(out.Diffs) || out.Diffs[told] != want {
			t.Errorf("over: got %v, want %v at %d", out.Diffs, want, told)
			return
		}
		told++
		room := impl.LineOpen(is)
		if p.Kind == impl.KindGot {
			room = impl.LineTransit(is)
		}
		same(t, "room is left", room, int64(0))
	}
	same(t, "diffs", len(out.Diffs), told)
}

// accounts are what a paper brings of one item: pieces ordered, cut, sent, got and adjusted. They are told
// from the paper and the diffs alone.
type accounts struct {
	ordered, cut, sent, got, adjusted int64
}

func accountsOf(b impl.Book, crosses []impl.Cross, partner string, p impl.Paper, diffs []impl.Diff, item string) accounts {
	var a accounts
	into := []*int64{&a.ordered, &a.cut, &a.sent, &a.got, nil, &a.adjusted, nil}[p.Kind-1]
	if into == nil {
		return a
	}
	for _, l := range p.Lines {
		own := ownPlainly(crosses, partner, l.Item)
		if hasTwoNames(p.Kind) {
			own = lineIn(b, partner, p.Other, l.No).Item
		}
		if own == item {
			*into += l.Qty
		}
	}
	a.cut -= impl.DiffSum(diffs, impl.DiffCut, item)
	a.sent -= impl.DiffSum(diffs, impl.DiffSent, item)
	a.got -= impl.DiffSum(diffs, impl.DiffGot, item)
	a.adjusted -= impl.DiffSum(diffs, impl.DiffAdjust, item)
	return a
}

// checkAccounts is promise 13, of what is to hand, and promise 15, of what is ordered and in transit.
func checkAccounts(t *testing.T, b impl.Book, crosses []impl.Cross, partner string, p impl.Paper, out impl.BookOut) {
	t.Helper()
	items := append(impl.BookItems(b), impl.BookItems(out.Book)...)
	for _, d := range out.Diffs {
		items = append(items, d.Item)
	}
	slices.Sort(items)
	for _, item := range slices.Compact(items) {
		a := accountsOf(b, crosses, partner, p, out.Diffs, item)
		same(t, "to hand of "+item, impl.BookHand(out.Book, item), impl.BookHand(b, item)+a.got+a.adjusted)
		for _, whose := range []string{"", partner, "OTHER", "DOCK"} {
			open, transit := sumsPlainly(out.Book, whose, item)
			same(t, "ordered is the sum over lines", impl.BookOrdered(out.Book, whose, item), open)
			same(t, "in transit is the sum over lines", impl.BookTransit(out.Book, whose, item), transit)
			theirs := a
			if whose != "" && whose != partner {
				theirs = accounts{}
			}
			same(t, "ordered of "+item, open, impl.BookOrdered(b, whose, item)+theirs.ordered-theirs.cut-theirs.sent)
			same(t, "in transit of "+item, transit, impl.BookTransit(b, whose, item)+theirs.sent-theirs.got)
		}
	}
}

// oneByOne books papers by BookPaper, up to the first fault, which it tells with the paper's place.
func oneByOne(b impl.Book, crosses []impl.Cross, partner string, list []impl.Paper) impl.BookOut {
	behind := impl.BookOut{Book: b}
	for at, p := range list {
		out := impl.BookPaper(behind.Book, crosses, partner, p)
		if out.Code != impl.OK {
			return impl.BookOut{At: int64(at), Code: out.Code}
		}
		behind.Book = out.Book
		behind.Diffs = append(behind.Diffs, out.Diffs...)
	}
	return behind
}

// checkRun is promise 14: at once is one by one, or nothing; and so it is in two pieces.
func checkRun(t *testing.T, b impl.Book, crosses []impl.Cross, partner string, list []impl.Paper) impl.BookOut {
	t.Helper()
	out := impl.BookPapers(b, crosses, partner, list)
	sameBooked(t, "at once", out, oneByOne(b, crosses, partner, list), list...)
	cut := len(list) / 2
	first := impl.BookPapers(b, crosses, partner, list[:cut])
	if first.Code != impl.OK {
		sameBooked(t, "the fault of the first ones", out, first)
		return out
	}
	rest := impl.BookPapers(first.Book, crosses, partner, list[cut:])
	if rest.Code != impl.OK {
		sameBooked(t, "the fault of the others", out, impl.BookOut{At: rest.At + int64(cut), Code: rest.Code})
		return out
	}
	sameBooked(t, "in two pieces", out, impl.BookOut{Book: rest.Book, Diffs: append(first.Diffs, rest.Diffs...)})
	return out
}

// refusedAs: is nothing told but the code and the place?
func refusedAs(t *testing.T, what string, got impl.BookOut, code int64, at int64) {
	t.Helper()
	sameBooked(t, what, got, impl.BookOut{Code: code, At: at})
}

// An order from its coming to its end, each step as it stands there.
func TestAnOrderIsBookedFromEndToEnd(t *testing.T) {
	order := paperBy("order PO-1: 1 X1 10, 2 NUT 5, 7 X2 8")
	order.Day, order.Notes, order.Lines[0].Money = 9, []string{"with care"}, 25
	out := checkBooked(t, impl.Book{}, acmeCrosses(), "ACME", order)
	lines := []impl.OrderLine{
		lineOf("ACME", 1, "BOLT", 10, 0, 0, 0), lineOf("ACME", 2, "NUT", 5, 0, 0, 0), lineOf("ACME", 7, "NUT", 8, 0, 0, 0),
	}
	sameBooked(t, "ordered", out, impl.BookOut{Book: impl.Book{Lines: lines}})
	for _, step := range []struct {
		paper  string
		stocks []impl.Stock
		line   int
		counts []int64
		diffs  []impl.Diff
	}{
		{"answer PO-1: 1 3", nil, 0, []int64{0, 0, 3}, nil},
		{"sent PO-1: 1 5", nil, 0, []int64{5, 0, 3}, nil},
		{"got PO-1: 1 4", stocks("BOLT 4"), 0, []int64{5, 4, 3}, nil},
		{"sent PO-1: 1 4", stocks("BOLT 4"), 0, []int64{7, 4, 3}, []impl.Diff{diff(impl.DiffSent, "PO-1", 1, "BOLT", 2)}},
		{"answer PO-1: 1 1", stocks("BOLT 4"), 0, []int64{7, 4, 3}, []impl.Diff{diff(impl.DiffCut, "PO-1", 1, "BOLT", 1)}},
		{"got PO-1: 1 9", stocks("BOLT 7"), 0, []int64{7, 7, 3}, []impl.Diff{diff(impl.DiffGot, "PO-1", 1, "BOLT", 6)}},
		{"got PO-1: 1 1000000", stocks("BOLT 7"), 0, []int64{7, 7, 3}, []impl.Diff{diff(impl.DiffGot, "PO-1", 1, "BOLT", 1000000)}},
		{"stock K-1: X1 7, BOLT 6, NUT 1", stocks("BOLT 7"), 0, []int64{7, 7, 3}, []impl.Diff{diff(impl.DiffStock, "K-1", 0, "BOLT", -1), diff(impl.DiffStock, "K-1", 0, "NUT", 1)}},
		{"adjust J-1: X1 -2, X2 4", stocks("BOLT 5", "NUT 4"), 0, []int64{7, 7, 3}, nil},
		{"adjust J-1: X1 -6, X2 -4", stocks("BOLT 0", "NUT 0"), 0, []int64{7, 7, 3}, []impl.Diff{diff(impl.DiffAdjust, "J-1", 0, "BOLT", -1)}},
		{"heard A1: 0 4", stocks("BOLT 0", "NUT 0"), 0, []int64{7, 7, 3}, nil},
		{"sent PO-1: 7 8", stocks("BOLT 0", "NUT 0"), 2, []int64{8, 0, 0}, nil},
		{"got PO-1: 7 8", stocks("BOLT 0", "NUT 8"), 2, []int64{8, 8, 0}, nil},
	} {
		out = checkBooked(t, out.Book, acmeCrosses(), "ACME", paperBy(step.paper))
		lines[step.line].Sent, lines[step.line].Got, lines[step.line].Cut = step.counts[0], step.counts[1], step.counts[2]
		sameBooked(t, step.paper, out, impl.BookOut{Book: impl.Book{Stocks: step.stocks, Lines: lines}, Diffs: step.diffs})
	}
	same(t, "the kinds", []int64{impl.DiffCut, impl.DiffSent, impl.DiffGot, impl.DiffStock, impl.DiffAdjust}, []int64{1, 2, 3, 4, 5})
}

// walkPapers books every run of at most deep papers, each from where the one ahead of it led.
func walkPapers(t *testing.T, b impl.Book, crosses []impl.Cross, few []impl.Paper, deep int) map[int64]int {
	codes := map[int64]int{}
	var walk func(from impl.Book, run []impl.Paper)
	walk = func(from impl.Book, run []impl.Paper) {
		if len(run) == deep || t.Failed() {
			return
		}
		for _, p := range few {
			out := checkBooked(t, from, crosses, "ACME", p)
			longer := append(slices.Clone(run), p)
			refused := checkRun(t, b, crosses, "ACME", longer).Code
			same(t, "at once", refused, out.Code)
			codes[out.Code]++
			if out.Code == impl.OK {
				walk(out.Book, longer)
			}
		}
	}
	walk(b, nil)
	return codes
}

// Promises 12 to 15, over every run of five papers of every kind.
func TestEveryShortRunOfPapers(t *testing.T) {
	few := papersBy("order PO-1: 1 X1 4, 2 X2 2", "order PO-2: 1 BOLT 3", "answer PO-1: 1 1, 2 3", "sent PO-1: 1 3, 2 1",
		"got PO-1: 1 2, 2 2", "stock K-1: X1 2, X2 0", "adjust J-1: X1 3, X2 -2", "heard A1: 0 4", "sent PO-2: 1 5")
	codes := walkPapers(t, impl.Book{}, acmeCrosses(), few, 5)
	same(t, "codes", len(codes), 3)
	for _, code := range []int64{impl.OK, impl.ErrNone, impl.ErrThere} {
		same(t, "met", codes[code] > 100, true)
	}
}

// The same over longer runs at one order, whose stock is next to full.
func TestEveryRunAtOneOrder(t *testing.T) {
	b := impl.Book{Stocks: stocks("BOLT 999999995"), Lines: []impl.OrderLine{lineOf("ACME", 1, "BOLT", 9, 0, 0, 0), lineOf("DOCK", 1, "BOLT", 9, 5, 0, 0)}}
	few := papersBy("answer PO-1: 1 2", "sent PO-1: 1 4", "got PO-1: 1 3", "adjust J-1: BOLT -2", "adjust J-1: X1 4", "got PO-1: 1 3, 2 1")
	codes := walkPapers(t, b, acmeCrosses(), few, 5)
	same(t, "codes", len(codes), 3)
	for _, code := range []int64{impl.OK, impl.ErrNone, impl.ErrFull} {
		same(t, "met", codes[code] > 100, true)
	}
}

// Lines of an order stand among the others by Partner, Ref and No, wherever that is.
func TestOrdersStandInTheirPlace(t *testing.T) {
	for _, partner := range []string{"A", "ACM", "ACME", "ACME-", "B", "C-1", "DOCK", "Z"} {
		for _, ref := range []string{"A", "PO", "PO-", "PO-0", "PO-2", "PO-10", "Z"} {
			for _, lines := range []string{"1 X1 5", "999 X1 5", "1 X1 5, 2 BOLT 1000000, 10 X9 1, 998 X2 7"} {
				p := paperBy("order " + ref + ": " + lines)
				out := checkBooked(t, sampleBook(), acmeCrosses(), partner, p)
				same(t, "code", out.Code, int64(impl.OK))
				same(t, "lines", len(out.Book.Lines), 6+len(p.Lines))
			}
		}
	}
}

// A Ref is there with its partner, whatever the Nos are; with another partner it is another one.
func TestOrdersThatAreThereAlready(t *testing.T) {
	b := sampleBook()
	for _, partner := range []string{"ACME", "C-1", "DOCK"} {
		for _, lines := range []string{"1 X1 5", "2 NUT 5", "9 X1 5", "999 BOLT 5", "4 X1 5, 5 X2 5"} {
			p := paperBy("order PO-1: " + lines)
			refusedAs(t, "there", checkBooked(t, b, acmeCrosses(), partner, p), impl.ErrThere, 0)
			refusedAs(t, "there", checkRun(t, b, nil, partner, []impl.Paper{paperBy("heard A1: 0 1"), p}), impl.ErrThere, 1)
		}
	}
	for _, partner := range []string{"ACM", "ACME-", "NUT", "PO-1"} {
		same(t, "another partner", checkBooked(t, b, acmeCrosses(), partner, paperBy("order PO-1: 1 X1 5")).Code, int64(impl.OK))
	}
	// What is cut, or got to the last piece, is there all the same.
	for _, l := range []impl.OrderLine{counts(10, 0, 0, 10), counts(10, 10, 10, 0)} {
		over := impl.Book{Lines: []impl.OrderLine{l}}
		refusedAs(t, "there", checkBooked(t, over, nil, "ACME", paperBy("order PO-1: 1 X1 5")), impl.ErrThere, 0)
	}
}

func TestTheMostLinesOfOrders(t *testing.T) {
	order := func(ref string, lines int) impl.Paper {
		p := impl.Paper{Kind: impl.KindOrder, Ref: ref}
		for at := range int64(lines) {
			p.Lines = append(p.Lines, impl.Line{No: at + 1, Item: "I" + number(at), Qty: 1})
		}
		return p
	}
	for _, c := range []struct {
		there, more int
		code        int64
	}{{199, 1, impl.OK}, {180, 20, impl.OK}, {198, 2, impl.OK}, {200, 1, impl.ErrFull}, {199, 2, impl.ErrFull}, {181, 20, impl.ErrFull}, {200, 20, impl.ErrFull}} {
		b := impl.Book{Lines: manyLines(c.there)}
		for _, ref := range []string{"A", "R1005A", "Z"} {
			out := checkBooked(t, b, nil, "ACME", order(ref, c.more))
			if c.code == impl.OK {
				same(t, "as many as may be", len(out.Book.Lines), 200)
			} else {
				refusedAs(t, "one too many", out, c.code, 0)
			}
			checkRun(t, b, nil, "C-1", []impl.Paper{order(ref, 1), order(ref+"B", c.more)})
		}
	}
	full := impl.Book{Lines: manyLines(impl.MaxOpen)}
	refusedAs(t, "there comes ahead of full", checkBooked(t, full, nil, "ACME", order("R1000", 20)), impl.ErrThere, 0)
	var list []impl.Paper
	for at := range int64(11) {
		list = append(list, order("PO-"+number(at), 20))
	}
	same(t, "ten of twenty", len(impl.BookPapers(impl.Book{}, nil, "ACME", list[:10]).Book.Lines), 200)
	refusedAs(t, "eleven", checkRun(t, impl.Book{}, nil, "ACME", list), impl.ErrFull, 10)
	list[10] = order("PO-3", 1)
	refusedAs(t, "there comes ahead of full", checkRun(t, impl.Book{}, nil, "ACME", list), impl.ErrThere, 10)
}

// What is posted goes to the line of the partner, the paper's Other and the No, whatever items and Refs are.
func TestPostingsFindTheirLine(t *testing.T) {
	b := sampleBook()
	for _, word := range []string{"answer", "sent", "got"} {
		for _, c := range []struct {
			partner, rest string
			at            int64
		}{
			{"ACME", "PO-1: 4 1", 0}, {"ACME", "PO-1: 1 1, 4 1", 1}, {"ACME", "PO-1: 1 1, 2 1, 3 1, 999 1", 3},
			{"ACME", "PO-2: 1 1", 0}, {"ACME", "PO: 1 1", 0}, {"ACME", "X-9: 1 1", 0}, {"ACME", "PO-10: 1 1", 0},
			{"C-1", "PO-1: 3 1", 0}, {"C-1", "PO-1: 1 1, 3 1", 1}, {"DOCK", "PO-1: 2 1", 0},
			{"ACM", "PO-1: 1 1", 0}, {"ACME-", "PO-1: 1 1", 0}, {"Z", "PO-1: 1 1", 0},
		} {
			p := paperBy(word + " " + c.rest)
			refusedAs(t, "none", checkBooked(t, b, acmeCrosses(), c.partner, p), impl.ErrNone, c.at)
			refusedAs(t, "none", checkRun(t, b, acmeCrosses(), c.partner, []impl.Paper{paperBy("heard A1: 0 1"), p}), impl.ErrNone, 1)
		}
		for _, partner := range []string{"ACME", "C-1"} {
			for _, qty := range []string{"1", "2", "3", "4", "5", "49", "50", "51", "999999", "1000000"} {
				p := paperBy(word + " PO-1: 1 " + qty + ", 2 " + qty)
				p.Ref = "PO-2"
				same(t, "code", checkBooked(t, b, acmeCrosses(), partner, p).Code, int64(impl.OK))
			}
		}
	}
	// The line's own item is told, even if it leads elsewhere by now.
	p := paperBy("sent PO-1: 1 9")
	same(t, "the line's item", checkBooked(t, b, crossOfWords("ACME NUT BOLT"), "ACME", p).Diffs, []impl.Diff{diff(impl.DiffSent, "PO-1", 1, "NUT", 5)})
}

// To hand comes what fits; where there is no place for it, the first such line refuses.
func TestGoodsGotAndFullStocks(t *testing.T) {
	line := func(no int64, item string) impl.OrderLine { return lineOf("ACME", no, item, 10, 6, 1, 0) }
	lines := []impl.OrderLine{line(1, "BOLT"), line(2, "NUT"), line(3, "BOLT")}
	for _, c := range []struct {
		hand, paper string
		code, at    int64
	}{
		{"999999995", "1 5", impl.OK, 0}, {"999999996", "1 5", impl.ErrFull, 0}, {"999999996", "1 4", impl.OK, 0},
		{"999999995", "1 1000000", impl.OK, 0}, {"999999996", "1 1000000", impl.ErrFull, 0}, {"1000000000", "1 1", impl.ErrFull, 0},
		{"999999995", "2 5, 3 5", impl.OK, 0}, {"999999995", "1 1, 2 5, 3 5", impl.ErrFull, 2}, {"999999999", "1 2, 4 1", impl.ErrFull, 0},
		{"999999999", "1 1, 4 1", impl.ErrNone, 1}, {"999999999", "1 1, 3 1, 4 1", impl.ErrFull, 1}, {"1000000000", "2 7", impl.OK, 0},
	} {
		b := impl.Book{Stocks: stocks("BOLT " + c.hand), Lines: lines}
		p := paperBy("got PO-1: " + c.paper)
		out := checkBooked(t, b, nil, "ACME", p)
		if c.code != impl.OK {
			refusedAs(t, c.paper, out, c.code, c.at)
			refusedAs(t, c.paper, checkRun(t, b, nil, "ACME", append(papersBy("stock K-1: BOLT 1", "heard A1: 0 1"), p)), c.code, 2)
		}
		same(t, c.paper, out.Code, c.code)
	}
	// Nothing of these fits, so that nothing has to come to hand, be it full or not.
	closed := impl.Book{Stocks: stocks("BOLT 1000000000"), Lines: []impl.OrderLine{lineOf("ACME", 1, "BOLT", 10, 6, 6, 0), lineOf("ACME", 2, "NUT", 10, 0, 0, 10)}}
	out := checkBooked(t, closed, nil, "ACME", paperBy("got PO-1: 1 5, 2 1"))
	same(t, "all is over", out.Diffs, []impl.Diff{diff(impl.DiffGot, "PO-1", 1, "BOLT", 5), diff(impl.DiffGot, "PO-1", 2, "NUT", 1)})
	same(t, "an item of nothing is there then", out.Book.Stocks, stocks("BOLT 1000000000", "NUT 0"))
}

// Where all places for items are taken, or all but one, what is new finds none, or one: each paper has the
// place of the line that is refused, or -1, with the one and the other.
func TestTheMostItemsToHand(t *testing.T) {
	lines := []impl.OrderLine{
		lineOf("ACME", 1, "S1000", 10, 6, 1, 0), lineOf("ACME", 2, "NEW", 10, 6, 1, 0),
		lineOf("ACME", 3, "NEXT", 10, 6, 6, 0), lineOf("ACME", 4, "LAST", 10, 6, 1, 0),
	}
	for _, c := range []struct {
		paper            string
		withAll, withOne int64
	}{
		{"got PO-1: 1 5", -1, -1}, {"got PO-1: 2 5", 0, -1}, {"got PO-1: 1 5, 2 5", 1, -1}, {"got PO-1: 2 5, 4 1", 0, 1},
		{"adjust J-1: S1000 5", -1, -1}, {"adjust J-1: NEW 5", 0, -1}, {"adjust J-1: S1000 1, S1002 -1, NEW 5", 2, -1},
		// What brings nothing to hand is not refused, but takes a place, if there is one.
		{"got PO-1: 3 5", -1, -1}, {"got PO-1: 1 1, 3 5, 4 5", 2, 2},
		{"adjust J-1: NEW -5", -1, -1}, {"adjust J-1: NEW -5, NEXT 1", 1, 1}, {"adjust J-1: NEW -5, NEXT -1", -1, -1},
		{"sent PO-1: 2 1, 4 9", -1, -1}, {"answer PO-1: 2 1, 4 9", -1, -1}, {"stock K-1: NEW 5, NEXT 0", -1, -1},
	} {
		for there, at := range map[int]int64{impl.MaxItems: c.withAll, impl.MaxItems - 1: c.withOne} {
			b := impl.Book{Stocks: manyStocks(there), Lines: lines}
			out := checkBooked(t, b, nil, "ACME", paperBy(c.paper))
			if at >= 0 {
				refusedAs(t, c.paper, out, impl.ErrFull, at)
			} else {
				same(t, c.paper, out.Code, int64(impl.OK))
			}
		}
	}
}

// What is adjusted goes up to the most there may be, and down to what there is.
func TestAdjustments(t *testing.T) {
	for _, hand := range []string{"0", "1", "5", "999999", "1000000", "1000001", "999000000", "999000001", "999999999", "1000000000"} {
		b := impl.Book{Stocks: stocks("BOLT " + hand)}
		for _, qty := range []string{"-1000000", "-999999", "-6", "-5", "-4", "-1", "1", "2", "999999", "1000000"} {
			out := checkBooked(t, b, acmeCrosses(), "ACME", paperBy("adjust J-1: X1 "+qty))
			h, q := numberRead(hand), numberRead(qty)
			if h+q > impl.MaxStock {
				refusedAs(t, hand+" and "+qty, out, impl.ErrFull, 0)
				continue
			}
			same(t, hand+" and "+qty, impl.BookHand(out.Book, "BOLT"), max(h+q, 0))
			same(t, "the rest of it", impl.DiffSum(out.Diffs, impl.DiffAdjust, "BOLT"), min(h+q, 0))
			same(t, "diffs", len(out.Diffs) == 1, h+q < 0)
		}
	}
	b := impl.Book{Stocks: stocks("BOLT 5", "NUT 1000000000")}
	// Two names that lead to one item are booked one behind the other.
	out := checkBooked(t, b, acmeCrosses(), "ACME", paperBy("adjust J-1: X1 -4, BOLT -3, X2 -1, NUT 1"))
	sameBooked(t, "two names", out, impl.BookOut{Book: impl.Book{Stocks: stocks("BOLT 0", "NUT 1000000000")}, Diffs: []impl.Diff{diff(impl.DiffAdjust, "J-1", 0, "BOLT", -2)}})
	refusedAs(t, "in order", checkBooked(t, b, acmeCrosses(), "ACME", paperBy("adjust J-1: X1 -4, NUT 1, X2 -1")), impl.ErrFull, 1)
	out = checkBooked(t, b, acmeCrosses(), "ACME", paperBy("adjust J-1: CLIP -7, AXLE 7"))
	sameBooked(t, "an item of nothing is there then", out, impl.BookOut{Book: impl.Book{Stocks: stocks("AXLE 7", "BOLT 5", "CLIP 0", "NUT 1000000000")}, Diffs: []impl.Diff{diff(impl.DiffAdjust, "J-1", 0, "CLIP", -7)}})
	p := paperBy("adjust J-1: X1 -1")
	p.Lines[0].Note, p.Day = "broken", 9
	same(t, "with a note", checkBooked(t, b, acmeCrosses(), "ACME", p).Book.Stocks, stocks("BOLT 4", "NUT 1000000000"))
}

// A count changes nothing; what it tells otherwise is a difference, be it above or below.
func TestCountsOfStock(t *testing.T) {
	b := sampleBook()
	out := checkBooked(t, b, acmeCrosses(), "ACME", paperBy("stock K-1: X1 5, X2 0, SCREW 1000000000, ZIP 0"))
	sameBooked(t, "as it is", out, impl.BookOut{Book: b})
	out = checkBooked(t, b, acmeCrosses(), "ACME", paperBy("stock K-1: X1 4, X2 1000000000, SCREW 0, ZIP 1, BOLT 6"))
	sameBooked(t, "other counts", out, impl.BookOut{Book: b, Diffs: []impl.Diff{
		diff(impl.DiffStock, "K-1", 0, "BOLT", -1), diff(impl.DiffStock, "K-1", 0, "NUT", 1000000000),
		diff(impl.DiffStock, "K-1", 0, "SCREW", -1000000000), diff(impl.DiffStock, "K-1", 0, "ZIP", 1), diff(impl.DiffStock, "K-1", 0, "BOLT", 1),
	}})
	for _, text := range []string{"heard A1: 0 0", "heard A1: 13 1000000000", "heard A9: 1000000000 5"} {
		sameBooked(t, "heard", checkBooked(t, b, acmeCrosses(), "ACME", paperBy(text)), impl.BookOut{Book: b})
		sameBooked(t, "heard", checkBooked(t, impl.Book{}, nil, "ACME", paperBy(text)), impl.BookOut{})
	}
}

// A partner's own crosses lead; another one's do not.
func TestItemsAreOurOwn(t *testing.T) {
	crosses := acmeCrosses()
	for partner, item := range map[string]string{"ACME": "BOLT", "DOCK": "SCREW", "C-1": "X1", "ACM": "X1"} {
		out := checkBooked(t, impl.Book{}, crosses, partner, paperBy("order PO-1: 1 X1 5, 2 BOLT 3, 3 Z9 1"))
		same(t, partner, []string{out.Book.Lines[0].Item, out.Book.Lines[1].Item, out.Book.Lines[2].Item}, []string{item, "BOLT", "Z9"})
		same(t, partner, checkBooked(t, impl.Book{}, crosses, partner, paperBy("adjust J-1: X1 5")).Book.Stocks, []impl.Stock{{Item: item, Hand: 5}})
		same(t, partner, checkBooked(t, impl.Book{}, crosses, partner, paperBy("stock K-1: X1 5")).Diffs[0].Item, item)
	}
	swapped := crossOfWords("ACME BOLT NUT", "ACME NUT BOLT")
	out := checkBooked(t, impl.Book{}, swapped, "ACME", paperBy("adjust J-1: BOLT 1, NUT 2"))
	same(t, "swapped", out.Book.Stocks, stocks("BOLT 2", "NUT 1"))
	same(t, "the most crosses", checkBooked(t, impl.Book{}, manyCrosses(impl.MaxCross), "DOCK", paperBy("adjust J-1: T1199 1")).Book.Stocks, stocks("O8801 1"))
}

// wrongCrosses are such as are not right by one thing each.
func wrongCrosses() [][]impl.Cross {
	all := [][]impl.Cross{
		crossOfWords("ACME X2 BOLT", "ACME X1 NUT"), crossOfWords("ACME X1 BOLT", "ACME X1 NUT"), crossOfWords("ACME X1 BOLT", "ACME X2 BOLT"),
		crossOfWords("B X1 BOLT", "ACME X1 BOLT"), {{}}, manyCrosses(201), manyCrosses(399), manyCrosses(400),
	}
	for _, name := range wrongNames {
		all = append(all, []impl.Cross{cross(name, "X1", "BOLT")}, []impl.Cross{cross("ACME", name, "BOLT")}, []impl.Cross{cross("ACME", "X1", name)})
	}
	return all
}

// Each of the four that is not right refuses alone, ahead of every fault of the booking.
func TestWhatIsNotRightIsNotBooked(t *testing.T) {
	b, crosses := sampleBook(), acmeCrosses()
	for _, p := range append(papersBy("order PO-1: 1 X1 5", "sent PO-9: 1 1", "adjust J-1: SCREW 1"), samplePapers()...) {
		for _, wrong := range wrongBooks() {
			refusedAs(t, "book", impl.BookPaper(wrong, crosses, "ACME", p), impl.ErrForm, 0)
			refusedAs(t, "book", impl.BookPapers(wrong, crosses, "ACME", []impl.Paper{p}), impl.ErrForm, 0)
		}
		for _, wrong := range wrongCrosses() {
			refusedAs(t, "crosses", impl.BookPaper(b, wrong, "ACME", p), impl.ErrForm, 0)
			refusedAs(t, "crosses", impl.BookPapers(b, wrong, "ACME", []impl.Paper{p}), impl.ErrForm, 0)
		}
		for _, name := range wrongNames {
			checkBooked(t, b, crosses, name, p)
			if len(name) <= impl.MaxBytes {
				refusedAs(t, "partner", impl.BookPaper(b, crosses, name, p), impl.ErrForm, 0)
				refusedAs(t, "partner", impl.BookPapers(b, crosses, name, []impl.Paper{p}), impl.ErrForm, 0)
			}
		}
	}
	refused := 0
	for _, p := range samplePapers() {
		for _, change := range changesOf() {
			changed := copyOfPaper(p)
			change(&changed)
			out := checkBooked(t, b, crosses, "ACME", changed)
			if !rightPlainly(changed) {
				refused++
				refusedAs(t, "paper", out, impl.ErrForm, 0)
				refusedAs(t, "paper", impl.BookPapers(b, crosses, "ACME", []impl.Paper{paperBy("heard A1: 0 1"), changed}), impl.ErrForm, 1)
			}
		}
	}
	same(t, "wrong papers", refused > 500, true)
	for _, kind := range wrongKinds {
		p := paperBy("order PO-2: 1 X1 5")
		p.Kind = kind
		refusedAs(t, "kind", impl.BookPaper(b, crosses, "ACME", p), impl.ErrForm, 0)
	}
	refusedAs(t, "the zero paper", impl.BookPaper(b, crosses, "ACME", impl.Paper{}), impl.ErrForm, 0)
}

// What is too big is refused ahead of all else; fields of papers and books have no such limit.
func TestWhatIsTooBigIsNotBooked(t *testing.T) {
	long := strings.Repeat("A", impl.MaxBytes)
	right, heard := paperBy("order PO-2: 1 X1 5"), paperBy("heard A1: 0 1")
	for _, b := range []impl.Book{{}, sampleBook(), wrongBooks()[0]} {
		for _, p := range []impl.Paper{right, paperBy("order PO-1: 1 X1 5"), {}, {Kind: 1, Ref: long + "A"}} {
			for _, crosses := range [][]impl.Cross{manyCrosses(401), make([]impl.Cross, 1000)} {
				refusedAs(t, "crosses", checkBooked(t, b, crosses, "ACME", p), impl.ErrSize, 0)
				refusedAs(t, "crosses", checkBooked(t, b, crosses, "", p), impl.ErrSize, 0)
				refusedAs(t, "crosses", impl.BookPapers(b, crosses, "ACME", []impl.Paper{heard, p}), impl.ErrSize, 0)
				refusedAs(t, "crosses and no paper", impl.BookPapers(b, crosses, "ACME", nil), impl.ErrSize, 0)
			}
			refusedAs(t, "partner", checkBooked(t, b, nil, long+"A", p), impl.ErrSize, 0)
			refusedAs(t, "partner", checkBooked(t, b, manyCrosses(201), long+"A", p), impl.ErrSize, 0)
			refusedAs(t, "partner", impl.BookPapers(b, nil, long+"A", []impl.Paper{heard, p}), impl.ErrSize, 0)
			refusedAs(t, "no name", checkBooked(t, b, nil, long, p), impl.ErrForm, 0)
			many := slices.Repeat([]impl.Paper{p}, impl.MaxList+1)
			refusedAs(t, "papers", impl.BookPapers(b, acmeCrosses(), "ACME", many), impl.ErrSize, 0)
			refusedAs(t, "papers", impl.BookPapers(b, manyCrosses(201), "", many), impl.ErrSize, 0)
		}
	}
	refusedAs(t, "a long Ref", checkBooked(t, impl.Book{}, nil, "ACME", impl.Paper{Kind: 1, Ref: long + "A"}), impl.ErrForm, 0)
}

// Promise 14, of as many papers as may be.
func TestTheMostPapers(t *testing.T) {
	list := slices.Repeat(papersBy("adjust J-1: BOLT 2, NUT -1", "stock K-1: BOLT 1"), impl.MaxList/2)
	out := checkRun(t, impl.Book{Stocks: stocks("NUT 150")}, nil, "ACME", list)
	same(t, "all of them", out.Book.Stocks, stocks("BOLT 400", "NUT 0"))
	same(t, "diffs", len(out.Diffs), 200+50)
	list[399] = paperBy("sent PO-1: 1 1")
	refusedAs(t, "the last one", checkRun(t, impl.Book{}, nil, "ACME", list), impl.ErrNone, 399)
	list[398] = impl.Paper{}
	refusedAs(t, "the last but one", checkRun(t, impl.Book{}, nil, "ACME", list), impl.ErrForm, 398)
	refusedAs(t, "one more", impl.BookPapers(impl.Book{}, nil, "ACME", append(list, list[0])), impl.ErrSize, 0)
}

// At once there is one fault: that of the first paper that has one, at its place, and nothing is booked.
func TestTheFirstFaultRefusesAll(t *testing.T) {
	b := sampleBook()
	good := papersBy("order PO-7: 1 X1 5", "sent PO-7: 1 9", "got PO-7: 1 9", "adjust J-1: X1 -99", "stock K-1: X1 3", "heard A1: 0 1", "answer PO-7: 1 1")
	same(t, "all are good", checkRun(t, b, acmeCrosses(), "ACME", good).Code, int64(impl.OK))
	bad := []struct {
		paper impl.Paper
		code  int64
	}{
		{paperBy("order PO-1: 9 X1 5"), impl.ErrThere}, {paperBy("got PO-1: 1 1, 2 1, 4 1"), impl.ErrNone},
		{paperBy("adjust J-1: X1 1, SCREW 1"), impl.ErrFull}, {paperBy("order PO-8: 1 X1 0"), impl.ErrForm}, {impl.Paper{}, impl.ErrForm},
	}
	for at := range len(good) + 1 {
		for _, one := range bad {
			list := slices.Insert(slices.Clone(good), at, one.paper)
			refusedAs(t, "one", checkRun(t, b, acmeCrosses(), "ACME", list), one.code, int64(at))
			for _, two := range bad {
				refusedAs(t, "two", checkRun(t, b, acmeCrosses(), "ACME", append(list, two.paper)), one.code, int64(at))
			}
		}
	}
	sameBooked(t, "none", impl.BookPapers(b, acmeCrosses(), "ACME", nil), impl.BookOut{Book: b})
	sameBooked(t, "none", impl.BookPapers(b, nil, "ACME", []impl.Paper{}), impl.BookOut{Book: b})
	refusedAs(t, "none, of a wrong partner", impl.BookPapers(b, nil, "", nil), impl.ErrForm, 0)
	refusedAs(t, "none, in a wrong book", impl.BookPapers(wrongBooks()[0], nil, "ACME", nil), impl.ErrForm, 0)
	refusedAs(t, "none, by wrong crosses", impl.BookPapers(b, manyCrosses(201), "ACME", nil), impl.ErrForm, 0)
}

// diffSumPlainly sums up whole numbers of any size, and takes what a signed number of 64 bits keeps of that.
func diffSumPlainly(list []impl.Diff, kind int64, item string) int64 {
	sum := new(big.Int)
	for _, d := range list {
		if len(list) <= 400 && len(item) <= 20000 && d.Kind == kind && d.Item == item {
			sum.Add(sum, big.NewInt(d.Qty))
		}
	}
	whole := new(big.Int).Lsh(big.NewInt(1), 64)
	sum.Mod(sum, whole)
	if sum.Bit(63) == 1 {
		sum.Sub(sum, whole)
	}
	return sum.Int64()
}

func TestSumsOfDiffs(t *testing.T) {
	var list []impl.Diff
	for at, qty := range append(slices.Clone(hugeNumbers), 0, 1, 5, -7, math.MaxInt64, math.MinInt64) {
		for kind := int64(-1); kind <= 6; kind++ {
			list = append(list, impl.Diff{Kind: kind, Partner: "A", Item: []string{"BOLT", "NUT", ""}[(at+int(kind)+1)%3], Qty: qty})
		}
	}
	for end := range len(list) + 1 {
		for kind := int64(-2); kind <= 7; kind++ {
			for _, item := range []string{"BOLT", "NUT", "", "BOL", "A"} {
				same(t, "sum", impl.DiffSum(list[:end], kind, item), diffSumPlainly(list[:end], kind, item))
			}
		}
	}
	one := diff(impl.DiffSent, "PO-1", 1, "BOLT", math.MaxInt64)
	same(t, "one", impl.DiffSum([]impl.Diff{one}, 2, "BOLT"), int64(math.MaxInt64))
	same(t, "two", impl.DiffSum([]impl.Diff{one, one}, 2, "BOLT"), int64(-2))
	same(t, "none", impl.DiffSum(nil, 2, "BOLT"), int64(0))
	same(t, "another kind", impl.DiffSum([]impl.Diff{one}, 1, "BOLT"), int64(0))
	same(t, "another item", impl.DiffSum([]impl.Diff{one}, 2, "NUT"), int64(0))
	same(t, "of any partner", impl.DiffSum([]impl.Diff{diff(5, "A", 0, "BOLT", -3), {Kind: 5, Partner: "x", Ref: "Y", No: 9, Item: "BOLT", Qty: -4}}, 5, "BOLT"), int64(-7))
	five := diff(impl.DiffCut, "PO-1", 1, "BOLT", 5)
	same(t, "the most", impl.DiffSum(slices.Repeat([]impl.Diff{five}, impl.MaxList), 1, "BOLT"), int64(5*impl.MaxList))
	same(t, "too many", impl.DiffSum(slices.Repeat([]impl.Diff{five}, impl.MaxList+1), 1, "BOLT"), int64(0))
	long := strings.Repeat("A", impl.MaxBytes)
	for _, item := range []string{long, long + "A"} {
		five.Item = item
		same(t, "a long item", impl.DiffSum([]impl.Diff{five}, 1, item) == 5, len(item) == impl.MaxBytes)
	}
}

func TestTextsOfDiffs(t *testing.T) {
	long := strings.Repeat("A", impl.MaxBytes+1)
	for want, d := range map[string]impl.Diff{
		"2 ACME PO-1 1 BOLT 2":      diff(impl.DiffSent, "PO-1", 1, "BOLT", 2),
		"5 ACME J-1 0 NUT -1000000": diff(impl.DiffAdjust, "J-1", 0, "NUT", -1000000),
		"0   0  0":                  {},
		"-9223372036854775808 a b \n 9223372036854775807 \xff -1": {Kind: math.MinInt64, Partner: "a b", Ref: "\n", No: math.MaxInt64, Item: "\xff", Qty: -1},
		"1 " + long + " R 1 " + long + " 3":                       {Kind: 1, Partner: long, Ref: "R", No: 1, Item: long, Qty: 3},
	} {
		if got := impl.DiffText(d); got != want {
			t.Errorf("got %.80q, want %.80q", got, want)
		}
	}
}

// freshPaper gives a paper like p in memory of its own.
func freshPaper(p impl.Paper) impl.Paper {
	p.Ref, p.Other = strings.Clone(p.Ref), strings.Clone(p.Other)
	lines := make([]impl.Line, 0, 30)
	for _, l := range p.Lines {
		l.Item = strings.Clone(l.Item)
		lines = append(lines, l)
	}
	p.Lines = lines
	return p
}

// textsOfBooked gives all texts of an answer, those of each list apart.
func textsOfBooked(out impl.BookOut) [3][]string {
	var all [3][]string
	for _, s := range out.Book.Stocks {
		all[0] = append(all[0], s.Item)
	}
	for _, l := range out.Book.Lines {
		all[1] = append(all[1], l.Partner, l.Ref, l.Item)
	}
	for _, d := range out.Diffs {
		all[2] = append(all[2], d.Partner, d.Ref, d.Item)
	}
	return all
}

// sharesAny: lies a text of a within one of b?
func sharesAny(a []string, b []string) bool {
	for _, text := range a {
		if slices.ContainsFunc(b, func(other string) bool { return within(text, other) }) {
			return true
		}
	}
	return false
}

func TestWhatIsBookedIsNewMemory(t *testing.T) {
	runs := [][]impl.Paper{
		papersBy("order PO-7: 1 X1 5, 2 ZIP 5"), papersBy("sent PO-1: 1 9, 3 60"), papersBy("got PO-1: 1 9, 3 60"), papersBy("answer PO-1: 1 9, 2 9"),
		papersBy("stock K-1: X1 9, AXLE 3"), papersBy("adjust J-1: X1 -9, AXLE 3, CLIP -2"), papersBy("heard A1: 0 1"),
		papersBy("order PO-7: 1 X1 5, 2 ZIP 5", "sent PO-7: 1 9", "got PO-7: 1 9"),
		// These are refused at their end, behind what was booked.
		papersBy("got PO-1: 1 3, 3 60, 4 1"), papersBy("adjust J-1: X1 -9, AXLE 3, SCREW 1"), papersBy("order PO-7: 1 X1 5", "adjust J-1: X1 3", "sent PO-7: 1 9, 2 1"),
	}
	for _, given := range runs {
		b, crosses, partner := freshBook(sampleBook()), acmeCrosses(), strings.Clone("ACME")
		var list []impl.Paper
		for _, p := range given {
			list = append(list, freshPaper(p))
		}
		handed := []string{partner}
		for _, c := range crosses {
			handed = append(handed, c.Partner, c.Theirs, c.Own)
		}
		for _, p := range list {
			handed = append(handed, p.Ref, p.Other)
			for _, l := range p.Lines {
				handed = append(handed, l.Item)
			}
		}
		for _, texts := range textsOfBooked(impl.BookOut{Book: b}) {
			handed = append(handed, texts...)
		}
		for range 2 {
			for _, out := range []impl.BookOut{impl.BookPaper(b, crosses, partner, list[0]), impl.BookPapers(b, crosses, partner, list)} {
				told := textsOfBooked(out)
				for at, texts := range told {
					same(t, "shared with what was handed in", sharesAny(texts, handed), false)
					same(t, "shared with another list", sharesAny(texts, told[(at+1)%3]) || sharesAny(texts, told[(at+2)%3]), false)
				}
				for at := range out.Diffs {
					out.Diffs[at] = impl.Diff{}
				}
				checkNewBook(t, b, sampleBook(), "", out.Book)
				sameCrosses(t, "crosses as they were", crosses, acmeCrosses())
				for at, p := range list {
					same(t, "papers as they were", impl.PaperSame(p, given[at]), true)
					same(t, "nothing behind them", p.Lines[:30][len(p.Lines):], make([]impl.Line, 30-len(p.Lines)))
				}
			}
		}
	}
	d := diff(1, "PO-1", 1, strings.Clone("BOLT"), 2)
	same(t, "a text of its own", within(impl.DiffText(d), d.Item), false)
}
