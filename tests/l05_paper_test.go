package tests

import (
	"math"
	"regexp"
	"slices"
	"strconv"
	"strings"
	"testing"

	"loop.example/g00096/impl"
)

// fieldsOf has, kind by kind, a letter for each element of a line: No, Item, Qty, Money, Text (the Note).
var fieldsOf = []string{"NIQM", "NQT", "NQ", "NQT", "IQ", "IQT", "NQM"}

// lineTags are the Tags of lines, kind by kind.
var lineTags = []string{"LIN", "LIN", "LIN", "LIN", "ITM", "ITM", "ACK"}

// Which kinds have two names in their DOC, notes, Nos that rise, and Items that come once.
func hasTwoNames(kind int64) bool { return kind >= 2 && kind <= 4 }
func hasNotes(kind int64) bool    { return kind == 1 || kind == 3 }
func hasRising(kind int64) bool   { return kind <= 4 }
func hasItems(kind int64) bool    { return kind == 1 || kind == 5 || kind == 6 }

func number(n int64) string {
	return strconv.FormatInt(n, 10)
}

// bodyToldPlainly tells the body of any Paper of some kind, as chapter 6 lists its fields.
func bodyToldPlainly(p impl.Paper) []impl.Segment {
	doc := []string{p.Ref, number(p.Day)}
	if hasTwoNames(p.Kind) {
		doc = []string{p.Ref, p.Other, number(p.Day)}
	}
	body := []impl.Segment{oneParts("DOC", doc...)}
	for _, note := range p.Notes {
		body = append(body, oneParts("NOT", note))
	}
	for _, l := range p.Lines {
		var els []string
		for _, field := range fieldsOf[p.Kind-1] {
			switch {
			case field == 'N':
				els = append(els, number(l.No))
			case field == 'I':
				els = append(els, l.Item)
			case field == 'Q':
				els = append(els, number(l.Qty))
			case field == 'M' && l.Money != 0:
				els = append(els, number(l.Money))
			case field == 'T' && l.Note != "":
				els = append(els, l.Note)
			}
		}
		body = append(body, oneParts(lineTags[p.Kind-1], els...))
	}
	return body
}

// oneParts gives a segment of elements of one part, whatever stands in it.
func oneParts(tag string, els ...string) impl.Segment {
	g := impl.Segment{Tag: tag}
	for _, el := range els {
		g.Els = append(g.Els, impl.Element{Parts: []string{el}})
	}
	return g
}

// rightPlainly holds a Paper to what chapters 1, 5 and 6 say of its fields.
func rightPlainly(p impl.Paper) bool {
	if p.Kind < 1 || p.Kind > 7 || !plainName(p.Ref) || p.Day < 0 || p.Day > 100000 {
		return false
	}
	if hasTwoNames(p.Kind) != plainName(p.Other) || !hasTwoNames(p.Kind) && p.Other != "" {
		return false
	}
	if len(p.Notes) > 2 || len(p.Notes) > 0 && !hasNotes(p.Kind) || !allOf(p.Notes, plainText) {
		return false
	}
	if len(p.Lines) < 1 || len(p.Lines) > 20 || p.Kind == 7 && len(p.Lines) > 1 {
		return false
	}
	for at, l := range p.Lines {
		if !linePlainly(p.Kind, l) || !standsPlainly(p.Kind, p.Lines[:at], l) {
			return false
		}
	}
	return true
}

func allOf(list []string, is func(string) bool) bool {
	return !slices.ContainsFunc(list, func(text string) bool { return !is(text) })
}

// namePattern is made once, as names are asked for more often than anything else.
var namePattern = regexp.MustCompile("^[A-Z][A-Z0-9-]{0,11}$")

func plainName(text string) bool {
	return namePattern.MatchString(text)
}

func plainText(text string) bool {
	return matches("[ -~]{1,40}", text)
}

// linePlainly holds a line alone to its kind.
func linePlainly(kind int64, l impl.Line) bool {
	no, money, note := l.No == 0, l.Money == 0, l.Note == ""
	switch {
	case kind <= 4:
		no = l.No >= 1 && l.No <= 999
	case kind == 7:
		no = l.No >= 0 && l.No <= 1000000000
	}
	if kind == 1 || kind == 7 {
		money = l.Money >= 0 && l.Money <= 1000000000
	}
	if kind == 2 || kind == 4 || kind == 6 {
		note = l.Note == "" || plainText(l.Note)
	}
	least, most := int64(1), int64(1000000)
	switch kind {
	case 5, 7:
		least, most = 0, 1000000000
	case 6:
		least = -1000000
	}
	qty := l.Qty >= least && l.Qty <= most && (kind != 6 || l.Qty != 0)
	item := l.Item == ""
	if hasItems(kind) {
		item = plainName(l.Item)
	}
	return no && money && note && qty && item
}

// standsPlainly: may the line stand behind those?
func standsPlainly(kind int64, ahead []impl.Line, l impl.Line) bool {
	if hasRising(kind) && (l.No < 1 || l.No > 999) {
		return false
	}
	for _, other := range ahead {
		if hasRising(kind) && other.No >= l.No || hasItems(kind) && other.Item == l.Item {
			return false
		}
	}
	return true
}

// paperOfKind gives a right Paper with so many lines, and all its fields of no zero.
func paperOfKind(kind int64, lines int) impl.Paper {
	p := impl.Paper{Kind: kind, Ref: "PO-1", Day: 9}
	if hasTwoNames(kind) {
		p.Other = "REF-2"
	}
	if hasNotes(kind) {
		p.Notes = []string{"with care", "soon"}
	}
	for i := range int64(lines) {
		var l impl.Line
		for _, field := range fieldsOf[kind-1] {
			switch field {
			case 'N':
				l.No = 3*i + 2
			case 'I':
				l.Item = "ITEM-" + number(i)
			case 'Q':
				l.Qty = i + 5
			case 'M':
				l.Money = 7*i + 25
			case 'T':
				l.Note = "note " + number(i)
			}
		}
		p.Lines = append(p.Lines, l)
	}
	return p
}

// samplePapers has a Paper of each kind, with more than one line where that may be.
func samplePapers() []impl.Paper {
	var all []impl.Paper
	for kind := range int64(6) {
		all = append(all, paperOfKind(kind+1, 3))
	}
	return append(all, paperOfKind(7, 1))
}

func copyOfPaper(p impl.Paper) impl.Paper {
	p.Notes, p.Lines = slices.Clone(p.Notes), slices.Clone(p.Lines)
	return p
}

// changesOf are changes of one field to values within, at, and beyond each limit.
func changesOf() []func(p *impl.Paper) {
	numbers := []int64{0, 1, -1, 2, 4, 999, 1000, 100000, 100001, 1000000, 1000001, -1000000, -1000001, 1000000000, 1000000001, -1000000000, 1 << 32, 1<<32 + 1, math.MaxInt64, math.MinInt64}
	texts := append([]string{"A", "A-", "ITEM-0", "ABCDEFGHIJKL", " ", "~", "a b", "a\tb", "\x7f", "1", "0", strings.Repeat("x", 40), strings.Repeat("x", 41)}, wrongNames...)
	var all []func(p *impl.Paper)
	for _, n := range numbers {
		all = append(all,
			func(p *impl.Paper) { p.Day = n },
			func(p *impl.Paper) { p.Lines[0].No = n },
			func(p *impl.Paper) { p.Lines[len(p.Lines)-1].No = n },
			func(p *impl.Paper) { p.Lines[0].Qty = n },
			func(p *impl.Paper) { p.Lines[len(p.Lines)-1].Qty = n },
			func(p *impl.Paper) { p.Lines[0].Money = n },
			func(p *impl.Paper) { p.Lines[len(p.Lines)-1].Money = n })
	}
	for _, text := range texts {
		all = append(all,
			func(p *impl.Paper) { p.Ref = text },
			func(p *impl.Paper) { p.Other = text },
			func(p *impl.Paper) { p.Notes = []string{text} },
			func(p *impl.Paper) { p.Notes = []string{"x", text} },
			func(p *impl.Paper) { p.Lines[0].Item = text },
			func(p *impl.Paper) { p.Lines[len(p.Lines)-1].Item = text },
			func(p *impl.Paper) { p.Lines[0].Note = text },
			func(p *impl.Paper) { p.Lines[len(p.Lines)-1].Note = text })
	}
	return append(all,
		func(p *impl.Paper) { p.Notes = nil },
		func(p *impl.Paper) { p.Notes = []string{"a", "a", "a"} },
		func(p *impl.Paper) { p.Notes = repeated(impl.MaxList, "a") },
		func(p *impl.Paper) { p.Lines = nil },
		func(p *impl.Paper) { p.Lines = append(p.Lines, p.Lines[0]) },
		func(p *impl.Paper) { slices.Reverse(p.Lines) },
		func(p *impl.Paper) { p.Lines = paperOfKind(p.Kind, 19).Lines },
		func(p *impl.Paper) { p.Lines = paperOfKind(p.Kind, 20).Lines },
		func(p *impl.Paper) { p.Lines = paperOfKind(p.Kind, 21).Lines },
		func(p *impl.Paper) { p.Lines = paperOfKind(p.Kind, 333).Lines },
		func(p *impl.Paper) { p.Lines = paperOfKind(p.Kind, impl.MaxList+1).Lines })
}

// checkPaper holds all that chapter 6 tells of a Paper against what is plainly told here.
func checkPaper(t *testing.T, p impl.Paper) {
	t.Helper()
	right := rightPlainly(p)
	if got := impl.PaperRight(p); got != right {
		t.Fatalf("%+v: right is %v, want %v", p, got, right)
	}
	body := impl.PaperBody(p)
	if !right {
		same(t, "body of a wrong one", len(body), 0)
		same(t, "sum of a wrong one", impl.PaperSum(p), int64(0))
		return
	}
	same(t, "body", body, bodyToldPlainly(p))
	same(t, "table", impl.TableCheck(p.Kind, body), impl.TableOut{})
	same(t, "read", impl.PaperOf(p.Kind, body), impl.PaperOut{Paper: p})
	sum := int64(0)
	for _, l := range p.Lines {
		sum += l.Qty
	}
	same(t, "sum", impl.PaperSum(p), sum)
}

// Promise 6: right Papers come back, and wrong ones have no body.
func TestPapersComeBack(t *testing.T) {
	for _, p := range samplePapers() {
		same(t, "right", rightPlainly(p), true)
		checkPaper(t, p)
		changes := changesOf()
		for i, change := range changes {
			one := copyOfPaper(p)
			change(&one)
			checkPaper(t, one)
			// A second change beside it, another one for each: so faults meet.
			if len(one.Lines) > 0 {
				changes[(7*i+11)%len(changes)](&one)
				checkPaper(t, one)
			}
		}
	}
}

func TestPapersOfEachNumberOfLines(t *testing.T) {
	for kind := range int64(7) {
		for count := range impl.MaxLines + 3 {
			p := paperOfKind(kind+1, count)
			same(t, "right", impl.PaperRight(p), count >= 1 && (count == 1 || count <= 20 && kind != 6))
			checkPaper(t, p)
			for _, notes := range [][]string{nil, {"a"}, {"b", "a"}, {"a", "a", "a"}} {
				p.Notes = notes
				checkPaper(t, p)
			}
		}
	}
}

func TestPapersOfNoKind(t *testing.T) {
	for _, p := range append(samplePapers(), impl.Paper{}) {
		for _, kind := range wrongKinds {
			p.Kind = kind
			same(t, "right", impl.PaperRight(p), false)
			same(t, "body", len(impl.PaperBody(p)), 0)
			same(t, "sum", impl.PaperSum(p), int64(0))
		}
	}
}

// A field that another kind has an element for makes a Paper wrong.
func TestPapersOfAnotherKind(t *testing.T) {
	for _, p := range samplePapers() {
		for kind := range int64(7) {
			other := copyOfPaper(p)
			other.Kind = kind + 1
			checkPaper(t, other)
		}
	}
}

func TestBodies(t *testing.T) {
	lin := impl.Line{No: 1, Item: "BOLT", Qty: 5, Money: 25}
	for _, c := range []struct {
		paper impl.Paper
		body  []impl.Segment
		sum   int64
	}{
		{impl.Paper{Kind: 1, Ref: "PO-1", Day: 9, Notes: []string{"hi"}, Lines: []impl.Line{lin, {No: 3, Item: "NUT", Qty: 2}}}, []impl.Segment{seg("DOC", "PO-1", "9"), seg("NOT", "hi"), seg("LIN", "1", "BOLT", "5", "25"), seg("LIN", "3", "NUT", "2")}, 7},
		{impl.Paper{Kind: 2, Ref: "A-1", Other: "PO-1", Lines: []impl.Line{{No: 1, Qty: 2, Note: "none left"}, {No: 999, Qty: 1}}}, []impl.Segment{seg("DOC", "A-1", "PO-1", "0"), seg("LIN", "1", "2", "none left"), seg("LIN", "999", "1")}, 3},
		{impl.Paper{Kind: 3, Ref: "S-1", Other: "PO-1", Day: 100000, Notes: []string{"a", "a"}, Lines: []impl.Line{{No: 7, Qty: 1000000}}}, []impl.Segment{seg("DOC", "S-1", "PO-1", "100000"), seg("NOT", "a"), seg("NOT", "a"), seg("LIN", "7", "1000000")}, 1000000},
		{impl.Paper{Kind: 4, Ref: "G-1", Other: "G-1", Day: 2, Lines: []impl.Line{{No: 1, Qty: 5, Note: "0"}}}, []impl.Segment{seg("DOC", "G-1", "G-1", "2"), seg("LIN", "1", "5", "0")}, 5},
		{impl.Paper{Kind: 5, Ref: "C-1", Day: 2, Lines: []impl.Line{{Item: "NUT", Qty: 1000000000}, {Item: "BOLT"}}}, []impl.Segment{seg("DOC", "C-1", "2"), seg("ITM", "NUT", "1000000000"), seg("ITM", "BOLT", "0")}, 1000000000},
		{impl.Paper{Kind: 6, Ref: "J-1", Day: 2, Lines: []impl.Line{{Item: "NUT", Qty: -1000000}, {Item: "BOLT", Qty: 3, Note: "found"}}}, []impl.Segment{seg("DOC", "J-1", "2"), seg("ITM", "NUT", "-1000000"), seg("ITM", "BOLT", "3", "found")}, -999997},
		{impl.Paper{Kind: 7, Ref: "A1", Day: 2, Lines: []impl.Line{{}}}, []impl.Segment{seg("DOC", "A1", "2"), seg("ACK", "0", "0")}, 0},
		{impl.Paper{Kind: 7, Ref: "A1", Day: 2, Lines: []impl.Line{{No: 1000000000, Qty: 12, Money: 4}}}, []impl.Segment{seg("DOC", "A1", "2"), seg("ACK", "1000000000", "12", "4")}, 12},
	} {
		same(t, "right", impl.PaperRight(c.paper), true)
		same(t, "body", impl.PaperBody(c.paper), c.body)
		same(t, "read", impl.PaperOf(c.paper.Kind, c.body), impl.PaperOut{Paper: c.paper})
		same(t, "sum", impl.PaperSum(c.paper), c.sum)
	}
}

// linesToRead are segments of lines that the tables take, kind by kind, each field's edges among them.
func linesToRead(kind int64) []impl.Segment {
	nos, items := []string{"0", "1", "2", "999", "1000"}, []string{"A", "B"}
	moneys, notes := []string{"", "0", "7"}, []string{"", "x"}
	choices := [][][]string{
		{nos, items, {"5"}, moneys}, {nos, {"1", "1000000"}, notes}, {nos, {"1", "1000000"}}, {nos, {"3"}, notes},
		{{"A", "B", "C"}, {"0", "5"}}, {items, {"-5", "5"}, notes}, {{"0", "1", "1000000000"}, {"0", "1000000000"}, moneys},
	}[kind-1]
	all := [][]string{nil}
	for _, choice := range choices {
		var next [][]string
		for _, els := range all {
			for _, word := range choice {
				if word == "" {
					next = append(next, els)
					continue
				}
				next = append(next, append(slices.Clone(els), word))
			}
		}
		all = next
	}
	var list []impl.Segment
	for _, els := range all {
		list = append(list, oneParts(lineTags[kind-1], els...))
	}
	return list
}

// readPlainly tells what PaperOf has to tell of a body that the table takes.
func readPlainly(kind int64, body []impl.Segment) impl.PaperOut {
	p := impl.Paper{Kind: kind}
	nought := -1
	for at, g := range body {
		els := make([]string, 0, 4)
		for _, e := range g.Els {
			els = append(els, e.Parts[0])
		}
		switch {
		case g.Tag == "NOT":
			p.Notes = append(p.Notes, els[0])
			continue
		case g.Tag == "DOC":
			p.Ref, p.Day = els[0], numberRead(els[len(els)-1])
			if hasTwoNames(kind) {
				p.Other = els[1]
			}
			continue
		}
		l := lineRead(kind, els)
		if !standsPlainly(kind, p.Lines, l) {
			return impl.PaperOut{At: int64(at), Code: impl.ErrThere}
		}
		if nought < 0 && strings.Contains(fieldsOf[kind-1], "M") && len(els) == len(fieldsOf[kind-1]) && l.Money == 0 {
			nought = at
		}
		p.Lines = append(p.Lines, l)
	}
	if nought >= 0 {
		return impl.PaperOut{At: int64(nought), Code: impl.ErrSyntax}
	}
	return impl.PaperOut{Paper: p}
}

func numberRead(text string) int64 {
	n, err := strconv.ParseInt(text, 10, 64)
	if err != nil {
		panic(err)
	}
	return n
}

func lineRead(kind int64, els []string) impl.Line {
	var l impl.Line
	for at, el := range els {
		switch fieldsOf[kind-1][at] {
		case 'N':
			l.No = numberRead(el)
		case 'I':
			l.Item = el
		case 'Q':
			l.Qty = numberRead(el)
		case 'M':
			l.Money = numberRead(el)
		case 'T':
			l.Note = el
		}
	}
	return l
}

// Promise 6, the other way: what is read is told as just this body; faults are named in their order.
func TestEveryShortBodyIsToldAsItWasRead(t *testing.T) {
	for kind := int64(1); kind <= 7; kind++ {
		lines := linesToRead(kind)
		head := bodyToldPlainly(paperOfKind(kind, 0))
		bodies := [][]impl.Segment{head}
		for range 3 {
			var next [][]impl.Segment
			for _, body := range bodies {
				for _, line := range lines {
					next = append(next, append(slices.Clone(body), line))
				}
			}
			for _, body := range next {
				checkRead(t, kind, body)
			}
			if kind == 7 {
				break
			}
			bodies = next
		}
	}
}

func checkRead(t *testing.T, kind int64, body []impl.Segment) {
	t.Helper()
	out := impl.PaperOf(kind, body)
	same(t, "read", out, readPlainly(kind, body))
	if out.Code == impl.OK {
		same(t, "right", impl.PaperRight(out.Paper), true)
		same(t, "told", impl.PaperBody(out.Paper), body)
	}
	if t.Failed() {
		t.Fatalf("of kind %d: %+v", kind, body)
	}
}

// What the table refuses is refused as the table does, also where lines have faults of their own.
func TestFaultsOfTheTableComeFirst(t *testing.T) {
	for table, k := range kinds {
		for _, letters := range textsOf(lettersFor(table), 5) {
			body := bodyOf(table, letters)
			fault := impl.TableCheck(k.kind, body)
			if fault.Code == impl.OK {
				checkRead(t, k.kind, body)
				continue
			}
			same(t, k.name+" "+letters, impl.PaperOf(k.kind, body), impl.PaperOut{At: fault.At, Code: fault.Code})
		}
	}
	for _, w := range words {
		body := []impl.Segment{seg("DOC", "PO-1", "9"), seg("LIN", "5", "BOLT", "1", "0"), seg("LIN", "5", "BOLT", "1"), oneParts("LIN", "6", "NUT", w.word)}
		want := impl.PaperOut{At: 3, Code: impl.ErrSyntax}
		if strings.Contains(w.letters, "q") {
			want = impl.PaperOut{At: 2, Code: impl.ErrThere}
		}
		same(t, w.word, impl.PaperOf(impl.KindOrder, body), want)
	}
}

func TestPaperOfNamesTheFirstFault(t *testing.T) {
	doc, two := seg("DOC", "PO-1", "9"), seg("DOC", "A-1", "PO-1", "9")
	a, b, nought := seg("LIN", "1", "A", "5"), seg("LIN", "2", "B", "5", "7"), seg("LIN", "3", "C", "5", "0")
	for _, c := range []struct {
		what string
		kind int64
		body []impl.Segment
		want impl.PaperOut
	}{
		{"empty", 1, nil, impl.PaperOut{Code: impl.ErrShort}},
		{"no lines", 1, []impl.Segment{doc}, impl.PaperOut{At: 1, Code: impl.ErrShort}},
		{"form", 1, []impl.Segment{doc, a, seg("LIN", "2", "B", "0")}, impl.PaperOut{At: 2, Code: impl.ErrSyntax}},
		{"head of another kind", 2, []impl.Segment{doc, seg("LIN", "1", "5")}, impl.PaperOut{Code: impl.ErrSyntax}},
		{"too many", 7, []impl.Segment{doc, seg("ACK", "0", "1"), seg("ACK", "0", "1")}, impl.PaperOut{At: 2, Code: impl.ErrMany}},
		{"falling", 1, []impl.Segment{doc, b, a}, impl.PaperOut{At: 2, Code: impl.ErrThere}},
		{"the same No", 1, []impl.Segment{doc, seg("NOT", "x"), a, seg("LIN", "1", "B", "5")}, impl.PaperOut{At: 3, Code: impl.ErrThere}},
		{"No 0", 2, []impl.Segment{two, seg("LIN", "0", "5")}, impl.PaperOut{At: 1, Code: impl.ErrThere}},
		{"No 999", 2, []impl.Segment{two, seg("LIN", "999", "5")}, impl.PaperOut{Paper: impl.Paper{Kind: 2, Ref: "A-1", Other: "PO-1", Day: 9, Lines: []impl.Line{{No: 999, Qty: 5}}}}},
		{"No 1000", 2, []impl.Segment{two, seg("LIN", "1000", "5")}, impl.PaperOut{At: 1, Code: impl.ErrThere}},
		{"Item twice", 1, []impl.Segment{doc, a, b, seg("LIN", "3", "A", "5")}, impl.PaperOut{At: 3, Code: impl.ErrThere}},
		{"Item twice, then falling", 1, []impl.Segment{doc, b, seg("LIN", "3", "B", "5"), a}, impl.PaperOut{At: 2, Code: impl.ErrThere}},
		{"falling, then Item twice", 1, []impl.Segment{doc, b, a, seg("LIN", "3", "B", "5")}, impl.PaperOut{At: 2, Code: impl.ErrThere}},
		{"Item twice, counted", 5, []impl.Segment{doc, seg("ITM", "A", "0"), seg("ITM", "A", "0")}, impl.PaperOut{At: 2, Code: impl.ErrThere}},
		{"Item twice, adjusted", 6, []impl.Segment{doc, seg("ITM", "A", "1"), seg("ITM", "B", "1"), seg("ITM", "A", "-1")}, impl.PaperOut{At: 3, Code: impl.ErrThere}},
		{"Money 0", 1, []impl.Segment{doc, a, b, nought}, impl.PaperOut{At: 3, Code: impl.ErrSyntax}},
		{"Money 0 behind notes", 1, []impl.Segment{doc, seg("NOT", "x"), seg("NOT", "x"), nought}, impl.PaperOut{At: 3, Code: impl.ErrSyntax}},
		{"Money 0, then falling", 1, []impl.Segment{doc, nought, a}, impl.PaperOut{At: 2, Code: impl.ErrThere}},
		{"Money 0 twice", 1, []impl.Segment{doc, nought, seg("LIN", "4", "D", "5", "0")}, impl.PaperOut{At: 1, Code: impl.ErrSyntax}},
		{"Money 0 heard", 7, []impl.Segment{doc, seg("ACK", "0", "1", "0")}, impl.PaperOut{At: 1, Code: impl.ErrSyntax}},
		{"a note that is 0", 6, []impl.Segment{doc, seg("ITM", "A", "1", "0")}, impl.PaperOut{Paper: impl.Paper{Kind: 6, Ref: "PO-1", Day: 9, Lines: []impl.Line{{Item: "A", Qty: 1, Note: "0"}}}}},
		{"code above 999", 7, []impl.Segment{doc, seg("ACK", "1000", "1")}, impl.PaperOut{Paper: impl.Paper{Kind: 7, Ref: "PO-1", Day: 9, Lines: []impl.Line{{No: 1000, Qty: 1}}}}},
	} {
		same(t, c.what, impl.PaperOf(c.kind, c.body), c.want)
	}
}

func TestPaperOfRefusesFirstBySizeThenByKind(t *testing.T) {
	body := slices.Repeat([]impl.Segment{seg("DOC", "PO-1", "9")}, impl.MaxList+1)
	for _, kind := range append([]int64{1, 7}, wrongKinds...) {
		same(t, "more", impl.PaperOf(kind, body), impl.PaperOut{Code: impl.ErrSize})
	}
	for _, kind := range wrongKinds {
		for _, list := range [][]impl.Segment{nil, body[:impl.MaxList], bodyOf(0, "DL"), {{}}} {
			same(t, "no kind", impl.PaperOf(kind, list), impl.PaperOut{Code: impl.ErrForm})
		}
	}
	same(t, "most", impl.PaperOf(1, body[:impl.MaxList]), impl.PaperOut{At: 1, Code: impl.ErrShort})
}

func TestPaperSame(t *testing.T) {
	changes := append(changesOf(), func(p *impl.Paper) { p.Kind++ }, func(p *impl.Paper) { p.Kind = -1 }, func(p *impl.Paper) { p.Lines = p.Lines[:1] })
	for _, p := range samplePapers() {
		same(t, "itself", impl.PaperSame(p, copyOfPaper(p)), true)
		for _, change := range changes {
			a, b := copyOfPaper(p), copyOfPaper(p)
			change(&a)
			want := slices.Equal(a.Notes, p.Notes) && slices.Equal(a.Lines, p.Lines) && a.Kind == p.Kind && a.Ref == p.Ref && a.Other == p.Other && a.Day == p.Day
			same(t, "changed", impl.PaperSame(a, p), want)
			same(t, "turned round", impl.PaperSame(p, a), want)
			change(&b)
			same(t, "both", impl.PaperSame(a, b), true)
		}
	}
	papers := samplePapers()
	for i, a := range papers {
		for k, b := range papers {
			same(t, "of two", impl.PaperSame(a, b), i == k)
		}
	}
	none := impl.Paper{Notes: []string{}, Lines: []impl.Line{}}
	same(t, "an empty list and none", impl.PaperSame(none, impl.Paper{}), true)
	same(t, "a zero line and none", impl.PaperSame(impl.Paper{Lines: []impl.Line{{}}}, none), false)
	same(t, "an empty note and none", impl.PaperSame(impl.Paper{Notes: []string{""}}, none), false)
	long := impl.Paper{Lines: make([]impl.Line, impl.MaxList+1), Notes: repeated(impl.MaxList+1, "a")}
	same(t, "long ones", impl.PaperSame(long, copyOfPaper(long)), true)
}

func TestEmptyListsOfAPaperAreNone(t *testing.T) {
	p := paperOfKind(2, 1)
	p.Notes = []string{}
	same(t, "right", impl.PaperRight(p), true)
	same(t, "body", impl.PaperBody(p), bodyToldPlainly(p))
	p.Lines = []impl.Line{}
	same(t, "without lines", impl.PaperRight(p), false)
}

func TestPapersAreNewMemory(t *testing.T) {
	for at, p := range samplePapers() {
		body := impl.PaperBody(p)
		for _, g := range body {
			for _, e := range g.Els {
				same(t, "told", sharesText(e.Parts[0], p), false)
			}
		}
		spoil(body)
		same(t, "told from", p, samplePapers()[at])
		body = bodyToldPlainly(p)
		out := impl.PaperOf(p.Kind, body)
		same(t, "not changed", body, bodyToldPlainly(p))
		for _, g := range body {
			for _, e := range g.Els {
				same(t, "read", sharesText(e.Parts[0], out.Paper), false)
			}
		}
		spoil(body)
		same(t, "read from", out, impl.PaperOut{Paper: p})
		impl.PaperSame(p, out.Paper)
		impl.PaperSum(p)
		same(t, "asked", p, samplePapers()[at])
	}
}

// sharesText: does a text of the Paper stand in that one's memory?
func sharesText(text string, p impl.Paper) bool {
	texts := append([]string{p.Ref, p.Other}, p.Notes...)
	for _, l := range p.Lines {
		texts = append(texts, l.Item, l.Note)
	}
	return slices.ContainsFunc(texts, func(one string) bool { return within(one, text) || within(text, one) })
}
