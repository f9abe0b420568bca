package tests

import (
	"slices"
	"strings"
	"sync"
	"testing"

	"loop.example/g00096/impl"
)

// rules gives those that are named, each as an Item, its Low and its Up, in this order.
func rules(list ...string) []impl.Rule {
	var all []impl.Rule
	for _, text := range list {
		words := strings.Split(text, " ")
		all = append(all, impl.Rule{Item: words[0], Low: numberRead(words[1]), Up: numberRead(words[2])})
	}
	return all
}

// manyRules gives n of them, rising, of Items of which there is nothing in any book here.
func manyRules(n int) []impl.Rule {
	var all []impl.Rule
	for at := range n {
		all = append(all, impl.Rule{Item: "R" + number(int64(1000+at)), Low: 1, Up: int64(1 + at)})
	}
	return all
}

// needLines gives Lines of nothing but an Item and a Qty.
func needLines(list ...string) []impl.Line {
	var all []impl.Line
	for _, text := range list {
		words := strings.Split(text, " ")
		all = append(all, impl.Line{Item: words[0], Qty: numberRead(words[1])})
	}
	return all
}

// rulesPlainly holds each Rule to all ahead of it.
func rulesPlainly(list []impl.Rule) bool {
	for at, r := range list {
		if !plainName(r.Item) || r.Low < 0 || r.Up < r.Low || r.Up > 1000000 {
			return false
		}
		for _, ahead := range list[:at] {
			if !(ahead.Item < r.Item) {
				return false
			}
		}
	}
	return len(list) < 21
}

// therePlainly tells what there is of an Item in a right book: what is to hand, and on each line all that
// was neither got nor cut.
func therePlainly(b impl.Book, item string) int64 {
	there := int64(0)
	for _, s := range b.Stocks {
		if s.Item == item {
			there += s.Hand
		}
	}
	for _, l := range b.Lines {
		if l.Item == item {
			there += l.Ordered - l.Got - l.Cut
		}
	}
	return there
}

func needsPlainly(b impl.Book, list []impl.Rule) []impl.Line {
	if !bookPlainly(b) || !rulesPlainly(list) {
		return nil
	}
	var needs []impl.Line
	for _, r := range list {
		if there := therePlainly(b, r.Item); there < r.Low {
			needs = append(needs, impl.Line{Item: r.Item, Qty: r.Up - there})
		}
	}
	return needs
}

// planPlainly looks for the faults in the order in which chapter 16 names them.
func planPlainly(g impl.Gate, list []impl.Rule, partner string, ref string) impl.PlanOut {
	if len(list) > 400 || len(partner) > 20000 || len(ref) > 20000 {
		return impl.PlanOut{Code: 2}
	}
	if !gatePlainly(g) || !rulesPlainly(list) || !plainName(partner) || !plainName(ref) {
		return impl.PlanOut{Code: 1}
	}
	if !slices.ContainsFunc(g.Partners, func(p impl.Partner) bool { return p.Name == partner }) {
		return impl.PlanOut{Code: 9}
	}
	if slices.ContainsFunc(g.Book.Lines, func(l impl.OrderLine) bool { return l.Partner == partner && l.Ref == ref }) {
		return impl.PlanOut{Code: 11}
	}
	needs := needsPlainly(g.Book, list)
	if len(needs) == 0 {
		return impl.PlanOut{Code: 6}
	}
	p, names := impl.Paper{Kind: 1, Ref: ref, Day: g.Day}, map[string]bool{}
	for at, l := range needs {
		theirs := theirsPlainly(g.Crosses, partner, l.Item)
		names[theirs] = true
		p.Lines = append(p.Lines, impl.Line{No: int64(at) + 1, Item: theirs, Qty: l.Qty})
	}
	if len(names) < len(needs) {
		return impl.PlanOut{Code: 10}
	}
	return impl.PlanOut{Paper: p}
}

// planTextPlainly tells the text of an order mark by mark: nothing in it needs a release.
func planTextPlainly(from string, to string, n int64, p impl.Paper) string {
	text := "SYN'+:?IXH+" + from + "+" + to + "+" + number(n) + "'GRH+1+1'MSH+1'DOC+" + p.Ref + "+" + number(p.Day) + "'"
	for _, l := range p.Lines {
		text += "LIN+" + number(l.No) + "+" + l.Item + "+" + number(l.Qty) + "'"
	}
	return text + "MST+" + number(int64(len(p.Lines))+1) + "+1'GRT+1+1'IXT+1+" + number(n) + "'"
}

// sameNeeds holds two lists of Lines against each other; an empty one and none are the same.
func sameNeeds(t *testing.T, what string, got []impl.Line, want []impl.Line) {
	t.Helper()
	if !slices.Equal(got, want) {
		t.Errorf("%s: got %s, want %s", what, short(got), short(want))
	}
}

func samePlan(t *testing.T, what string, got impl.PlanOut, want impl.PlanOut) {
	t.Helper()
	if got.Code != want.Code || !impl.PaperSame(got.Paper, want.Paper) {
		t.Errorf("%s: got %s, want %s", what, short(got), short(want))
	}
}

// checkNeeds holds what Rules need of a book to chapter 16.
func checkNeeds(t *testing.T, b impl.Book, list []impl.Rule) []impl.Line {
	t.Helper()
	same(t, "right rules", impl.RulesRight(list), rulesPlainly(list))
	needs := impl.PlanNeeds(b, list)
	sameNeeds(t, "needs", needs, needsPlainly(b, list))
	if t.Failed() {
		t.Fatalf("of %s by %s", short(b), short(list))
	}
	return needs
}

// checkPlan holds a proposal and its text to the plain telling, and to promises 22 and 23.
func checkPlan(t *testing.T, g impl.Gate, list []impl.Rule, partner string, ref string, n int64) impl.PlanOut {
	t.Helper()
	out, text := impl.PlanOrder(g, list, partner, ref), impl.PlanText(g, list, partner, ref, n)
	samePlan(t, "proposal", out, planPlainly(g, list, partner, ref))
	if out.Code != impl.OK {
		samePlan(t, "nothing beside the code", out, impl.PlanOut{Code: out.Code})
		sameText(t, "no text", text, "")
	} else {
		checkNothingNeeded(t, g, list, partner, out.Paper)
		checkJustThatOrder(t, g, partner, n, out.Paper, text)
	}
	if t.Failed() {
		t.Fatalf("of %s by %s, for %.40q %.40q %d", short(g), short(list), partner, ref, n)
	}
	return out
}

// checkNothingNeeded is promise 22: behind the booking nothing is needed. Chapter 9 lets a partner call one
// of our Items by the name of another: what is ordered by such a name is booked to that one, and the Item
// itself is still needed.
func checkNothingNeeded(t *testing.T, g impl.Gate, list []impl.Rule, partner string, p impl.Paper) {
	t.Helper()
	same(t, "a right paper", impl.PaperRight(p), true)
	booked := impl.BookPaper(g.Book, g.Crosses, partner, p)
	if len(g.Book.Lines)+len(p.Lines) > impl.MaxOpen {
		same(t, "no place for the order", booked.Code, int64(impl.ErrFull))
		return
	}
	same(t, "it can be booked", booked.Code, int64(impl.OK))
	same(t, "without differences", len(booked.Diffs), 0)
	var elsewhere []string
	for at, need := range impl.PlanNeeds(g.Book, list) {
		if impl.CrossOwn(g.Crosses, partner, p.Lines[at].Item) != need.Item {
			elsewhere = append(elsewhere, need.Item)
		}
	}
	left := impl.PlanNeeds(booked.Book, list)
	for _, need := range left {
		same(t, "22: nothing is needed", slices.Contains(elsewhere, need.Item), true)
	}
	behind := g
	behind.Book = booked.Book
	samePlan(t, "not twice", impl.PlanOrder(behind, list, partner, p.Ref), impl.PlanOut{Code: impl.ErrThere})
	if len(elsewhere) == 0 {
		same(t, "22: nothing is left", len(left), 0)
		samePlan(t, "22: nothing to order", impl.PlanOrder(behind, list, partner, "ZZ-9"), impl.PlanOut{Code: impl.ErrNone})
	}
}

// checkJustThatOrder is promise 23: what is read of the text is a Parcel of that one Paper, which the
// partner's own gate takes and books.
func checkJustThatOrder(t *testing.T, g impl.Gate, partner string, n int64, p impl.Paper, text string) {
	t.Helper()
	if !controlPlainly(n) {
		sameText(t, "no control number", text, "")
		return
	}
	sameText(t, "text", text, planTextPlainly(g.Name, partner, n, p))
	want := impl.Parcel{From: g.Name, To: partner, Number: n, Papers: []impl.Paper{p}}
	read := impl.ParcelRead(text)
	same(t, "23: it is read", []any{read.Code, read.S, read.Head}, []any{int64(impl.OK), usual, true})
	same(t, "23: just that order", impl.ParcelSame(read.Parcel, want), true)
	there := impl.GatePartner(impl.GateNew(partner), g.Name).Gate
	taken := impl.GateTake(there, text)
	same(t, "23: it is taken", []any{taken.Code, taken.Kind, taken.Partner}, []any{int64(impl.OK), int64(impl.TakeNew), g.Name})
	var lines []impl.OrderLine
	for _, l := range p.Lines {
		lines = append(lines, impl.OrderLine{Partner: g.Name, Ref: p.Ref, No: l.No, Item: l.Item, Ordered: l.Qty})
	}
	sameLines(t, "23: its lines", taken.Gate.Book.Lines, lines)
}

// planDock gives a gate whose book has, of each Item of sampleBook, what its lines leave.
func planDock() impl.Gate {
	g := dock()
	g.Day, g.Book = 4, sampleBook()
	return g
}

func TestSamplePlans(t *testing.T) {
	g := planDock()
	// Of BOLT there are 5 and 7 ordered; of NUT 4+50+3 are ordered and 3+50 in transit; AXLE is done.
	list := rules("AXLE 1 4", "BOLT 13 20", "GEAR 0 9", "NUT 111 1000000", "SCREW 1000000 1000000", "WASHER 9 9", "ZIP 1000000 1000000")
	sameNeeds(t, "needs", checkNeeds(t, g.Book, list), needLines("AXLE 4", "BOLT 8", "NUT 999890", "WASHER 9"))
	want := impl.Paper{Kind: impl.KindOrder, Ref: "PO-9", Day: 4, Lines: []impl.Line{
		{No: 1, Item: "AXLE", Qty: 4}, {No: 2, Item: "X1", Qty: 8}, {No: 3, Item: "X2", Qty: 999890}, {No: 4, Item: "WASHER", Qty: 9},
	}}
	samePlan(t, "by ACME's names", checkPlan(t, g, list, "ACME", "PO-9", 7), impl.PlanOut{Paper: want})
	sameText(t, "text", impl.PlanText(g, list, "ACME", "PO-9", 7), "SYN'+:?IXH+DOCK+ACME+7'GRH+1+1'MSH+1'DOC+PO-9+4'LIN+1+AXLE+4'LIN+2+X1+8'LIN+3+X2+999890'LIN+4+WASHER+9'MST+5+1'GRT+1+1'IXT+1+7'")
	own := copyOfPaper(want)
	own.Ref, own.Lines[1].Item, own.Lines[2].Item = "PO-2", "BOLT", "NUT"
	samePlan(t, "C-1 has our names", checkPlan(t, g, list, "C-1", "PO-2", 999999), impl.PlanOut{Paper: own})
	for partner, code := range map[string]int64{"ACM": impl.ErrPartner, "ACMEX": impl.ErrPartner, "DOCK": impl.ErrPartner, "acme": impl.ErrForm, "": impl.ErrForm} {
		samePlan(t, partner, checkPlan(t, g, list, partner, "PO-9", 7), impl.PlanOut{Code: code})
	}
	for ref, code := range map[string]int64{"PO-1": impl.ErrThere, "PO-11": impl.OK, "PO-": impl.OK, "PO-0": impl.OK, "po-9": impl.ErrForm, "": impl.ErrForm, "PO 9": impl.ErrForm} {
		same(t, ref, checkPlan(t, g, list, "ACME", ref, 7).Code, code)
	}
	for _, few := range [][]impl.Rule{nil, {}, rules("BOLT 12 20"), rules("GEAR 0 9"), rules("NUT 110 200", "ZIP 5 5")} {
		samePlan(t, "nothing needed", checkPlan(t, g, few, "ACME", "PO-9", 7), impl.PlanOut{Code: impl.ErrNone})
	}
}

// Every list of up to three of a few Rules, right and wrong ones among them.
func TestRulesRight(t *testing.T) {
	few := []impl.Rule{{Item: "A", Low: 0, Up: 0}, {Item: "A-", Low: 1, Up: 1000000}, {Item: "AB", Low: 2, Up: 2}, {Item: "B", Low: 3, Up: 2}, {Item: "C", Low: -1, Up: 2}, {Item: "a", Low: 1, Up: 2}}
	rights := 0
	for _, text := range textsOf("012345", 3) {
		var list []impl.Rule
		for at := range len(text) {
			list = append(list, few[text[at]-'0'])
		}
		checkNeeds(t, impl.Book{}, list)
		if impl.RulesRight(list) {
			rights++
		}
	}
	// Each set of the three right ones, in its one order.
	same(t, "rights", rights, 8)
	for _, name := range append([]string{"A", "Z-9ABCDEFGHI", "ABCDEFGHIJKL", strings.Repeat("A", impl.MaxBytes)}, wrongNames...) {
		same(t, "a name", impl.RulesRight([]impl.Rule{{Item: name, Low: 1, Up: 2}}), plainName(name))
		checkNeeds(t, impl.Book{}, []impl.Rule{{Item: name, Low: 1, Up: 2}, {Item: "ZZ", Low: 1, Up: 1}})
	}
	edges := append([]int64{0, 1, 2, 999999, 1000000, 1000001}, hugeNumbers...)
	for _, low := range edges {
		for _, up := range edges {
			list := []impl.Rule{{Item: "BOLT", Low: low, Up: up}}
			same(t, number(low)+" "+number(up), impl.RulesRight(list), low >= 0 && low <= up && up <= impl.MaxQty)
			checkNeeds(t, impl.Book{}, list)
			checkNeeds(t, sampleBook(), list)
		}
	}
	same(t, "the limit", impl.MaxPlan, 20)
}

func TestTheMostRules(t *testing.T) {
	g := planDock()
	for _, n := range []int{0, 1, 19, 20, 21, 22, 399, 400, 401, 1000} {
		list := manyRules(n)
		same(t, "right", impl.RulesRight(list), n <= impl.MaxPlan)
		needs := checkNeeds(t, g.Book, list)
		code := int64(impl.OK)
		switch {
		case n > impl.MaxList:
			code = impl.ErrSize
		case n > impl.MaxPlan:
			code = impl.ErrForm
		case n == 0:
			code = impl.ErrNone
		default:
			same(t, "a need for each", len(needs), n)
		}
		same(t, "code", checkPlan(t, g, list, "ACME", "PO-9", 1).Code, code)
		g.Name = "x"
		same(t, "size comes ahead of form", impl.PlanOrder(g, list, "x", "").Code == impl.ErrSize, n > impl.MaxList)
		g.Name = "DOCK"
	}
	// The longest names and the greatest numbers that there may be.
	most := impl.Gate{Name: "ABCDEFGHIJKL", Day: impl.MaxDay, Partners: []impl.Partner{impl.PartnerNew("ZBCDEFGHIJKL")}}
	var list []impl.Rule
	for at := range impl.MaxPlan {
		item, theirs := "I2345678-"+number(int64(100+at)), "T2345678-"+number(int64(999-at))
		most.Crosses = slices.Insert(most.Crosses, 0, cross("ZBCDEFGHIJKL", theirs, item))
		list = append(list, impl.Rule{Item: item, Low: impl.MaxQty, Up: impl.MaxQty})
	}
	out := checkPlan(t, most, list, "ZBCDEFGHIJKL", "R2345678-012", impl.MaxNumber)
	same(t, "all of it", []any{out.Code, impl.PaperSum(out.Paper)}, []any{int64(impl.OK), int64(20000000)})
	same(t, "in the order of our names", []string{out.Paper.Lines[0].Item, out.Paper.Lines[19].Item}, []string{"T2345678-999", "T2345678-980"})
}

// Each way in which there may be some of an Item, of small numbers: to hand, and on lines of two Partners.
func TestNeedsOfEverySmallBook(t *testing.T) {
	found := map[int64]int{}
	for hand := int64(-1); hand <= 2; hand++ {
		for sent := int64(0); sent <= 3; sent++ {
			for got := int64(0); got <= sent; got++ {
				for cut := int64(0); cut <= 4-sent; cut++ {
					b := impl.Book{Lines: []impl.OrderLine{lineOf("ACME", 1, "NUT", 3, sent, got, cut), lineOf("ACME", 2, "BOLT", 50, 20, 5, 0), lineOf("B", 1, "NUT", 1, 1, 0, 0)}}
					if hand > 0 {
						b.Stocks = stocks("NUT " + number(hand))
					} else if hand == 0 {
						b.Stocks = stocks("BOLT 3", "NUT 0", "NUTS 9")
					}
					for low := int64(0); low <= 7; low++ {
						for up := low - 1; up <= 8; up++ {
							for _, l := range checkNeeds(t, b, []impl.Rule{{Item: "NUT", Low: low, Up: up}}) {
								found[l.Qty]++
							}
						}
					}
				}
			}
		}
	}
	for qty := int64(1); qty <= 7; qty++ {
		same(t, "lacking "+number(qty), found[qty] > 0, true)
	}
}

// At Low nothing is needed, one piece below it all up to Up; however much there is, and whosever it is.
func TestNeedsAtTheEdge(t *testing.T) {
	most := int64(impl.MaxQty)
	for _, low := range []int64{1, 2, 500, most - 1, most} {
		for _, up := range []int64{low, most} {
			list := []impl.Rule{{Item: "NUT", Low: low, Up: up}}
			for _, there := range []int64{0, low - 1, low, low + 1, most, most + 1} {
				books := []impl.Book{{Stocks: []impl.Stock{{Item: "NUT", Hand: there}}}}
				if there > 0 && there <= most {
					books = append(books, impl.Book{Lines: []impl.OrderLine{lineOf("C-1", 9, "NUT", there, 0, 0, 0)}}, impl.Book{Lines: []impl.OrderLine{lineOf("XYZ", 9, "NUT", there, there, 0, 0)}})
				}
				var want []impl.Line
				if there < low {
					want = []impl.Line{{Item: "NUT", Qty: up - there}}
				}
				for _, b := range books {
					sameNeeds(t, "there are "+number(there), checkNeeds(t, b, list), want)
					g := planDock()
					g.Book = b
					checkPlan(t, g, list, "ACME", "PO-1", 1)
				}
			}
		}
	}
	none := impl.Book{Lines: []impl.OrderLine{lineOf("ACME", 1, "NUT", most, most, most, 0), lineOf("C-1", 1, "NUT", most, 0, 0, most)}}
	sameNeeds(t, "what is got or cut is not there", checkNeeds(t, none, rules("NUT 1 1000000")), needLines("NUT 1000000"))
	full := impl.Book{Stocks: []impl.Stock{{Item: "NUT", Hand: impl.MaxStock}}, Lines: manyLines(impl.MaxOpen)}
	for at := range full.Lines {
		full.Lines[at] = impl.OrderLine{Partner: full.Lines[at].Partner, Ref: full.Lines[at].Ref, No: full.Lines[at].No, Item: "NUT", Ordered: most}
	}
	sameNeeds(t, "the greatest sum", checkNeeds(t, full, rules("NUT 1000000 1000000")), nil)
	same(t, "it is right", impl.BookRight(full), true)
}

// Promises 22 and 23, over every set of Rules of four Items, every short book and some crosses.
func TestPlansOfEveryShortBook(t *testing.T) {
	few := []impl.OrderLine{lineOf("ACME", 1, "A", 10, 4, 1, 2), lineOf("ACME", 2, "B", 20, 20, 20, 0), lineOf("C-1", 1, "A", 5, 0, 0, 0), lineOf("C-1", 2, "D", 4, 4, 0, 0)}
	choices := [][]impl.Rule{{{Item: "A", Low: 8, Up: 30}}, {{Item: "B", Low: 1, Up: 1}}, {{Item: "C", Low: 3, Up: 9}}, {{Item: "D", Low: 4, Up: 7}}}
	ways := [][]impl.Cross{nil, crossOfWords("ACME A B", "ACME B A"), crossOfWords("ACME C D", "C-1 A D"), crossOfWords("ACME X C", "ACME Y D", "C-1 B A")}
	codes := map[int64]int{}
	for books := range 16 {
		for sets := range 16 {
			g, list := dock(), []impl.Rule(nil)
			g.Book.Stocks = stocks("B 1", "C 2")
			for at := range 4 {
				if books>>at&1 == 1 {
					g.Book.Lines = append(g.Book.Lines, few[at])
				}
				if sets>>at&1 == 1 {
					list = append(list, choices[at]...)
				}
			}
			for _, crosses := range ways {
				g.Crosses = crosses
				for _, partner := range []string{"ACME", "C-1", "DOCK"} {
					for _, ref := range []string{"PO-1", "PO-2"} {
						codes[checkPlan(t, g, list, partner, ref, 7).Code]++
					}
				}
			}
		}
	}
	for _, code := range []int64{impl.OK, impl.ErrNone, impl.ErrPartner, impl.ErrItem, impl.ErrThere} {
		same(t, "met the code "+number(code), codes[code] > 50, true)
	}
}

// Each fault comes ahead of those that are named behind it, whichever of these are there.
func TestTheOrderOfFaultsOfAPlan(t *testing.T) {
	long := strings.Repeat("A", impl.MaxBytes+1)
	for faults := range 1 << 10 {
		has := func(at int) bool { return faults>>at&1 == 1 }
		g, list, partner, ref := planDock(), rules("A 1 2", "B 1 2"), "ACME", "PO-2"
		want := int64(impl.OK)
		if has(9) {
			g.Crosses, want = crossOfWords("ACME A B"), impl.ErrItem
		}
		if has(8) {
			list[0].Low, list[1].Low, want = 0, 0, impl.ErrNone
		}
		if has(7) {
			ref, want = "PO-1", impl.ErrThere
		}
		if has(6) {
			// The book has lines of DOCK, which is none of the gate's Partners.
			partner, want = "DOCK", impl.ErrPartner
		}
		if has(5) {
			ref, want = "po", impl.ErrForm
		}
		if has(4) {
			partner, want = "", impl.ErrForm
		}
		if has(3) {
			list[1].Item, want = "A", impl.ErrForm
		}
		if has(2) {
			g.Day, want = -1, impl.ErrForm
		}
		if has(1) {
			list, want = append(list, make([]impl.Rule, 399)...), impl.ErrSize
		}
		if has(0) {
			want = impl.ErrSize
			if has(4) {
				partner = long
			} else {
				ref = long
			}
		}
		same(t, "faults "+number(int64(faults)), checkPlan(t, g, list, partner, ref, 7).Code, want)
	}
}

// Two of the Items that are needed may not have one name with the Partner; Items that are not needed, and
// crosses of others, may.
func TestItemsOfOneName(t *testing.T) {
	list := rules("BOLT 5 5", "NUT 5 5", "SCREW 5 5")
	for _, c := range []struct {
		crosses []impl.Cross
		there   []impl.Stock
		code    int64
		names   string
	}{
		{nil, nil, impl.OK, "BOLT NUT SCREW"},
		{crossOfWords("ACME NUT BOLT"), nil, impl.ErrItem, ""},
		{crossOfWords("ACME BOLT NUT"), nil, impl.ErrItem, ""},
		{crossOfWords("ACME BOLT SCREW"), nil, impl.ErrItem, ""},
		{crossOfWords("C-1 NUT BOLT"), nil, impl.OK, "BOLT NUT SCREW"},
		{crossOfWords("ACME NUT OTHER"), nil, impl.OK, "BOLT NUT SCREW"},
		{crossOfWords("ACME BOLT NUT", "ACME NUT BOLT"), nil, impl.OK, "NUT BOLT SCREW"},
		{crossOfWords("ACME BOLT NUT", "ACME NUT SCREW", "ACME SCREW BOLT"), nil, impl.OK, "SCREW BOLT NUT"},
		{crossOfWords("ACME BOLT NUT", "ACME NUT SCREW"), nil, impl.ErrItem, ""},
		{crossOfWords("ACME BOLT NUT", "ACME X9 BOLT"), nil, impl.OK, "X9 BOLT SCREW"},
		{crossOfWords("ACME NUT BOLT"), stocks("BOLT 5"), impl.OK, "NUT SCREW"},
		{crossOfWords("ACME NUT BOLT"), stocks("NUT 5"), impl.OK, "NUT SCREW"},
		{crossOfWords("ACME NUT BOLT"), stocks("SCREW 5"), impl.ErrItem, ""},
		{crossOfWords("ACME NUT BOLT"), stocks("BOLT 5", "NUT 5", "SCREW 5"), impl.ErrNone, ""},
	} {
		g := dock()
		g.Crosses, g.Book.Stocks = c.crosses, c.there
		out := checkPlan(t, g, list, "ACME", "PO-9", 7)
		var names []string
		for _, l := range out.Paper.Lines {
			names = append(names, l.Item)
		}
		same(t, short(c), []any{out.Code, strings.Join(names, " ")}, []any{c.code, c.names})
	}
	// The words of chapter 16 let this one be, though what comes of it is booked as BOLT.
	g := dock()
	g.Crosses = crossOfWords("ACME NUT BOLT")
	out := checkPlan(t, g, rules("NUT 5 5"), "ACME", "PO-9", 7)
	same(t, "as it is named", out.Paper.Lines, []impl.Line{{No: 1, Item: "NUT", Qty: 5}})
}

// A proposal may be told where its booking has no place; of 200 lines all may be.
func TestPlansOfFullBooks(t *testing.T) {
	for _, lines := range []int{0, 1, 179, 180, 181, 199, 200} {
		for _, n := range []int{1, 2, 19, 20} {
			g := dock()
			g.Book = impl.Book{Stocks: manyStocks(impl.MaxItems), Lines: manyLines(lines)}
			out := checkPlan(t, g, manyRules(n), "ACME", "ZZ-1", 7)
			same(t, "told", out.Code, int64(impl.OK))
			code := impl.BookPaper(g.Book, g.Crosses, "ACME", out.Paper).Code
			same(t, "booked", code == impl.OK, lines+n <= impl.MaxOpen)
		}
	}
	for _, g := range rightGates() {
		for _, list := range [][]impl.Rule{manyRules(20), rules("BOLT 100 200"), rules("O9000 1 1", "S1000 9 9")} {
			for _, p := range append(g.Partners, impl.PartnerNew("NOBODY")) {
				for _, ref := range []string{"PO-1", "PO-9"} {
					checkPlan(t, g, list, p.Name, ref, 7)
				}
			}
		}
	}
}

func TestNumbersOfPlanTexts(t *testing.T) {
	g, list := planDock(), rules("BOLT 13 20")
	for _, n := range []int64{1, 2, 10, 999998, 999999} {
		checkPlan(t, g, list, "ACME", "PO-9", n)
		same(t, "a text", impl.PlanText(g, list, "ACME", "PO-9", n) != "", true)
	}
	for _, n := range append(slices.Clone(wrongControls), hugeNumbers...) {
		checkPlan(t, g, list, "ACME", "PO-9", n)
		sameText(t, "no text", impl.PlanText(g, list, "ACME", "PO-9", n), "")
	}
	for _, day := range []int64{0, 1, 99999, 100000} {
		g.Day = day
		same(t, "its day", checkPlan(t, g, list, "ACME", "PO-9", 7).Paper.Day, day)
	}
}

func TestWrongThingsOfPlans(t *testing.T) {
	list, long := rules("BOLT 13 20", "NUT 1000 1000"), strings.Repeat("A", impl.MaxBytes+1)
	for _, g := range wrongGates() {
		for _, ref := range []string{"PO-1", "PO-9"} {
			samePlan(t, "a wrong gate", checkPlan(t, g, list, "ACME", ref, 7), impl.PlanOut{Code: impl.ErrForm})
		}
		samePlan(t, "size comes ahead of form", checkPlan(t, g, list, long, "PO-9", 7), impl.PlanOut{Code: impl.ErrSize})
		samePlan(t, "size comes ahead of form", checkPlan(t, g, list, "ACME", long, 7), impl.PlanOut{Code: impl.ErrSize})
	}
	for _, b := range wrongBooks() {
		sameNeeds(t, "a wrong book", checkNeeds(t, b, rules("A 5 5", "BOLT 1000 1000", "WASHER 1 1")), nil)
	}
	for _, name := range append([]string{long[1:]}, wrongNames...) {
		code := int64(impl.ErrForm)
		if len(name) > impl.MaxBytes {
			code = impl.ErrSize
		}
		samePlan(t, "no Partner", checkPlan(t, planDock(), list, name, "PO-9", 7), impl.PlanOut{Code: code})
		samePlan(t, "no Ref", checkPlan(t, planDock(), list, "ACME", name, 7), impl.PlanOut{Code: code})
		samePlan(t, "no Item", checkPlan(t, planDock(), []impl.Rule{{Item: name, Low: 1, Up: 1}}, "ACME", "PO-9", 7), impl.PlanOut{Code: impl.ErrForm})
	}
	for at := range list {
		for _, change := range []impl.Rule{{Item: list[at].Item, Low: 2, Up: 1}, {Item: list[at].Item, Low: -1, Up: 1}, {Item: list[at].Item, Low: 1, Up: 1000001}, {Item: "O", Low: 1, Up: 1}} {
			wrong := slices.Clone(list)
			wrong[at] = change
			checkNeeds(t, sampleBook(), wrong)
			checkPlan(t, planDock(), wrong, "ACME", "PO-9", 7)
		}
	}
	samePlan(t, "no gate", checkPlan(t, impl.Gate{}, list, "ACME", "PO-9", 7), impl.PlanOut{Code: impl.ErrForm})
	samePlan(t, "it knows nobody", checkPlan(t, impl.GateNew("DOCK"), list, "ACME", "PO-9", 7), impl.PlanOut{Code: impl.ErrPartner})
}

// Promise 22 the long way: the order is sent, comes, and is to hand; nothing is needed at any step till some
// of it goes.
func TestAPlanFromEndToEnd(t *testing.T) {
	g, list := planDock(), rules("BOLT 13 20", "GEAR 2 3")
	paper := checkPlan(t, g, list, "ACME", "PO-9", 7).Paper
	g.Book = impl.BookPaper(g.Book, g.Crosses, "ACME", paper).Book
	for _, step := range []struct {
		paper string
		needs []impl.Line
	}{
		{"sent PO-9: 1 8, 2 2", nil}, {"got PO-9: 1 8, 2 1", nil}, {"got PO-1: 1 3", nil}, {"answer PO-9: 2 1", nil}, {"adjust J-1: X1 -7", nil},
		{"adjust J-2: X1 -1", needLines("BOLT 8")}, {"answer PO-1: 2 7", needLines("BOLT 15")}, {"adjust J-3: GEAR -1", needLines("BOLT 15", "GEAR 2")},
	} {
		out := impl.BookPaper(g.Book, g.Crosses, "ACME", paperBy(step.paper))
		same(t, step.paper, out.Code, int64(impl.OK))
		g.Book = out.Book
		sameNeeds(t, step.paper, checkNeeds(t, g.Book, list), step.needs)
		checkPlan(t, g, list, "ACME", "PO-10", 8)
	}
}

// A proposal changes nothing of what it is made of, and shares no memory with it.
func TestPlansAreNewMemory(t *testing.T) {
	wrong := planDock()
	wrong.Day = -1
	for _, given := range []impl.Gate{planDock(), busyDock(), wrong, {Name: "DOCK"}} {
		g, partner, ref := freshGate(given), strings.Clone("ACME"), strings.Clone("PO-9")
		list := make([]impl.Rule, 0, 9)
		for _, r := range rules("AXLE 1 4", "BOLT 13 20", "NUT 1000 1000") {
			list = append(list, impl.Rule{Item: strings.Clone(r.Item), Low: r.Low, Up: r.Up})
		}
		handed := append(slices.Concat(textsOfGate(g)...), partner, ref)
		for _, r := range list {
			handed = append(handed, r.Item)
		}
		kept := slices.Clone(list[:cap(list)])
		room := roomBehind(freshGate(given))
		needs, out, text := impl.PlanNeeds(g.Book, list), impl.PlanOrder(g, list, partner, ref), impl.PlanText(g, list, partner, ref, 7)
		told := []string{out.Paper.Ref, text}
		for _, l := range slices.Concat(needs, out.Paper.Lines) {
			told = append(told, l.Item)
		}
		same(t, "shared", sharesAny(told, handed), false)
		clear(needs)
		clear(out.Paper.Lines)
		sameGate(t, "not changed", g, given)
		sameGate(t, "nothing behind it", roomBehind(g), room)
		same(t, "the rules", list[:cap(list)], kept)
		samePlan(t, "nothing is kept", impl.PlanOrder(g, list, partner, ref), planPlainly(g, list, partner, ref))
	}
}

// Nothing hangs on how goroutines run: the same Rules, asked by several at once, again and again, have one answer.
func TestOnePlanToldToSeveral(t *testing.T) {
	g, list := planDock(), append(rules("AXLE 1 4", "BOLT 13 20", "NUT 1000 1000"), manyRules(17)...)
	want := planPlainly(g, list, "ACME", "PO-9")
	same(t, "all are needed", len(want.Paper.Lines), impl.MaxPlan)
	var group sync.WaitGroup
	outs, texts := make([]impl.PlanOut, 64), make([]string, 64)
	for at := range outs {
		group.Go(func() {
			outs[at] = impl.PlanOrder(g, list, "ACME", "PO-9")
			texts[at] = impl.PlanText(g, list, "ACME", "PO-9", 7)
		})
	}
	group.Wait()
	for at, out := range outs {
		samePlan(t, "alike", out, want)
		sameText(t, "alike", texts[at], planTextPlainly("DOCK", "ACME", 7, want.Paper))
	}
}
