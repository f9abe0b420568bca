package tests

import (
	"math"
	"slices"
	"strings"
	"testing"

	"loop.example/g00096/impl"
)

// syntaxes are those by which parcels are told; the last one has the usual marks, each in another's place.
var syntaxes = []impl.Syntax{usual, other, {Seg: '!', El: '"', Comp: '#', Rel: '$'}, {Seg: '?', El: ':', Comp: '+', Rel: '\''}}

// parcel gives one from ACME to DOCK with these Papers.
func parcel(papers ...impl.Paper) impl.Parcel {
	return impl.Parcel{From: "ACME", To: "DOCK", Number: 7, Papers: papers}
}

// ofKinds gives a Parcel with a Paper of one line for each digit.
func ofKinds(digits string) impl.Parcel {
	p := parcel()
	for _, digit := range digits {
		p.Papers = append(p.Papers, paperOfKind(int64(digit-'0'), 1))
	}
	return p
}

// ofLines gives a Parcel with an answer for each number of lines.
func ofLines(counts ...int) impl.Parcel {
	p := parcel()
	for _, count := range counts {
		p.Papers = append(p.Papers, paperOfKind(impl.KindAnswer, count))
	}
	return p
}

func copyOfParcel(p impl.Parcel) impl.Parcel {
	p.Papers = slices.Clone(p.Papers)
	for at, paper := range p.Papers {
		p.Papers[at] = copyOfPaper(paper)
	}
	return p
}

// ixPlainly gives the Interchange of any Parcel whose Papers have a kind: a Bundle for each run.
func ixPlainly(p impl.Parcel) impl.Interchange {
	x := impl.Interchange{From: p.From, To: p.To, Number: p.Number}
	for at := 0; at < len(p.Papers); {
		b := impl.Bundle{Kind: p.Papers[at].Kind, Number: int64(len(x.Bundles) + 1)}
		for at < len(p.Papers) && p.Papers[at].Kind == b.Kind {
			b.Messages = append(b.Messages, impl.Message{Number: int64(at + 1), Body: bodyToldPlainly(p.Papers[at])})
			at++
		}
		x.Bundles = append(x.Bundles, b)
	}
	return x
}

// textPlainly tells segments of any kind behind their Syntax.
func textPlainly(s impl.Syntax, list []impl.Segment) string {
	seg, el, comp, rel := string(rune(s.Seg)), string(rune(s.El)), string(rune(s.Comp)), string(rune(s.Rel))
	escape := strings.NewReplacer(seg, rel+seg, el, rel+el, comp, rel+comp, rel, rel+rel)
	text := "SYN" + seg + el + comp + rel
	for _, g := range list {
		text += g.Tag
		for _, e := range g.Els {
			var parts []string
			for _, part := range e.Parts {
				parts = append(parts, escape.Replace(part))
			}
			text += el + strings.Join(parts, comp)
		}
		text += seg
	}
	return text
}

func parcelTextPlainly(s impl.Syntax, p impl.Parcel) string {
	return textPlainly(s, toldPlainly(ixPlainly(p)))
}

// parcelPlainly holds a Parcel to what chapters 1, 4 and 7 say of it.
func parcelPlainly(p impl.Parcel) bool {
	if !plainName(p.From) || !plainName(p.To) || p.Number < 1 || p.Number > 999999 || len(p.Papers) == 0 {
		return false
	}
	runs, length := 0, 0
	for at, paper := range p.Papers {
		if !rightPlainly(paper) {
			return false
		}
		length++
		if at == 0 || paper.Kind != p.Papers[at-1].Kind {
			runs, length = runs+1, 1
		}
		if runs > 5 || length > 10 {
			return false
		}
	}
	return true
}

// checkParcel holds all that chapter 7 tells of a Parcel against what is plainly told here.
func checkParcel(t *testing.T, p impl.Parcel) {
	t.Helper()
	right := parcelPlainly(p)
	if got := impl.ParcelRight(p); got != right {
		t.Fatalf("%+v: right is %v, want %v", p, got, right)
	}
	if !right {
		same(t, "interchange of a wrong one", impl.ParcelIx(p), impl.Interchange{})
		same(t, "text of a wrong one", impl.ParcelText(usual, p), "")
		return
	}
	x := impl.ParcelIx(p)
	same(t, "interchange", x, ixPlainly(p))
	same(t, "right interchange", impl.IxRight(x), true)
	for _, s := range wrongs {
		same(t, "wrong syntax", impl.ParcelText(s, p), "")
	}
	for _, s := range syntaxes {
		text := impl.ParcelText(s, p)
		if len(toldPlainly(x)) > 200 {
			same(t, "too many segments", text, "")
			continue
		}
		same(t, "text", text, parcelTextPlainly(s, p))
		same(t, "read", impl.ParcelRead(text), impl.ParcelOut{Parcel: p, S: s, Head: true})
	}
	if t.Failed() {
		t.Fatalf("of %+v", p)
	}
}

// sampleParcels has each kind, runs of one kind, and a run that comes again.
func sampleParcels() []impl.Parcel {
	all := []impl.Parcel{ofKinds("1"), ofKinds("11"), ofKinds("1122333"), ofKinds("12121"), ofKinds("34567"), ofKinds("7776661"), ofLines(1, 2, 3)}
	for _, paper := range samplePapers() {
		all = append(all, parcel(paper), parcel(paper, paperOfKind(1, 2), paper))
	}
	return all
}

// parcelChanges are changes of a Parcel's own fields, within, at and beyond their limits.
func parcelChanges() []func(p *impl.Parcel) {
	var all []func(p *impl.Parcel)
	for _, name := range append([]string{"A", "A-", "Z9", "ABCDEFGHIJKL", "DOCK", "ACME"}, wrongNames...) {
		all = append(all, func(p *impl.Parcel) { p.From = name }, func(p *impl.Parcel) { p.To = name })
	}
	for _, number := range append([]int64{1, 2, impl.MaxNumber, math.MaxInt64}, wrongControls...) {
		all = append(all, func(p *impl.Parcel) { p.Number = number })
	}
	return append(all,
		func(p *impl.Parcel) { p.Papers = nil },
		func(p *impl.Parcel) { p.Papers = []impl.Paper{} },
		func(p *impl.Parcel) { p.Papers = []impl.Paper{{}} },
		func(p *impl.Parcel) { p.Papers = append(p.Papers, p.Papers[0]) },
		func(p *impl.Parcel) { p.Papers = append(p.Papers, impl.Paper{}) },
		func(p *impl.Parcel) { p.Papers = append([]impl.Paper{{Kind: 8}}, p.Papers...) },
		func(p *impl.Parcel) { slices.Reverse(p.Papers) })
}

// Promise 7: right Parcels come back, and wrong ones have neither Interchange nor text.
func TestParcelsComeBack(t *testing.T) {
	for _, p := range sampleParcels() {
		same(t, "right", parcelPlainly(p), true)
		checkParcel(t, p)
		for _, change := range parcelChanges() {
			one := copyOfParcel(p)
			change(&one)
			checkParcel(t, one)
		}
	}
	checkParcel(t, impl.Parcel{})
}

// Each field of a Paper within a Parcel, at its limits and beyond them.
func TestParcelsOfChangedPapersComeBack(t *testing.T) {
	for _, paper := range samplePapers() {
		for _, change := range changesOf() {
			one := copyOfPaper(paper)
			change(&one)
			checkParcel(t, parcel(one))
			checkParcel(t, parcel(paperOfKind(2, 1), one))
		}
		for _, kind := range wrongKinds {
			one := copyOfPaper(paper)
			one.Kind = kind
			checkParcel(t, parcel(one))
			checkParcel(t, parcel(one, paper))
		}
	}
}

// Every Parcel of at most six Papers of three kinds.
func TestEveryShortRunOfKindsComesBack(t *testing.T) {
	for _, digits := range textsOf("127", 6) {
		checkParcel(t, ofKinds(digits))
	}
}

// Marks of the Syntax, and all else that a note may have, come back.
func TestNotesOfAllBytesComeBack(t *testing.T) {
	var notes []string
	for b := 32; b <= 126; b++ {
		notes = append(notes, string(rune(b)), strings.Repeat(string(rune(b)), 40), "a"+string(rune(b)))
	}
	for _, s := range syntaxes {
		notes = append(notes, textsOf(string([]byte{byte(s.Seg), byte(s.El), byte(s.Rel), 'a'}), 3)[1:]...)
	}
	for _, note := range notes {
		order, adjust := paperOfKind(1, 1), paperOfKind(6, 2)
		order.Notes = []string{note, note}
		adjust.Lines[0].Note = note
		checkParcel(t, parcel(order, adjust))
	}
}

func TestParcelIx(t *testing.T) {
	x := impl.ParcelIx(ofKinds("112212"))
	var told []int64
	for _, b := range x.Bundles {
		told = append(told, b.Kind, b.Number)
		for _, m := range b.Messages {
			told = append(told, 10*m.Number)
		}
	}
	same(t, "numbers", told, []int64{1, 1, 10, 20, 2, 2, 30, 40, 1, 3, 50, 2, 4, 60})
	same(t, "head", impl.Interchange{From: x.From, To: x.To, Number: x.Number}, impl.Interchange{From: "ACME", To: "DOCK", Number: 7})
	same(t, "body", x.Bundles[2].Messages[0].Body, impl.PaperBody(paperOfKind(1, 1)))
}

func TestParcelText(t *testing.T) {
	order := impl.Paper{Kind: 1, Ref: "PO-1", Day: 9, Notes: []string{"a+b"}, Lines: []impl.Line{{No: 1, Item: "BOLT", Qty: 5}}}
	heard := impl.Paper{Kind: 7, Ref: "A1", Lines: []impl.Line{{No: 3, Qty: 4, Money: 5}}}
	p := impl.Parcel{From: "A", To: "B-2", Number: 999999, Papers: []impl.Paper{order, heard, heard}}
	same(t, "usual", impl.ParcelText(usual, p), "SYN'+:?IXH+A+B-2+999999'GRH+1+1'MSH+1'DOC+PO-1+9'NOT+a?+b'LIN+1+BOLT+5'MST+3+1'GRT+1+1'GRH+7+2'MSH+2'DOC+A1+0'ACK+3+4+5'MST+2+2'MSH+3'DOC+A1+0'ACK+3+4+5'MST+2+3'GRT+2+2'IXT+2+999999'")
	same(t, "other", impl.ParcelText(other, parcel(order)), `SYN~*>\IXH*ACME*DOCK*7~GRH*1*1~MSH*1~DOC*PO-1*9~NOT*a+b~LIN*1*BOLT*5~MST*3*1~GRT*1*1~IXT*1*7~`)
}

// Runs, and Papers within a run, up to what an Interchange may have.
func TestParcelsOfTooManyPapers(t *testing.T) {
	for _, c := range []struct {
		digits string
		right  bool
	}{
		{"12121", true}, {"121212", false}, {"1234567", false}, {"1112223334445", true}, {"11122233344456", false},
		{strings.Repeat("1", 10), true}, {strings.Repeat("1", 11), false}, {"2" + strings.Repeat("1", 10) + "2", true}, {"2" + strings.Repeat("1", 11), false},
		{strings.Repeat("1", 10) + strings.Repeat("2", 10), true}, {strings.Repeat("1", 401), false}, {strings.Repeat("12", 300), false}, {"", false},
	} {
		same(t, c.digits, impl.ParcelRight(ofKinds(c.digits)), c.right)
		checkParcel(t, ofKinds(c.digits))
	}
	fifty := ofKinds(strings.Repeat("1", 10) + strings.Repeat("2", 10) + strings.Repeat("1", 10) + strings.Repeat("2", 10) + strings.Repeat("1", 10))
	same(t, "the most Papers", impl.ParcelRight(fifty), true)
	same(t, "their bundles", impl.ParcelIx(fifty), ixPlainly(fifty))
	same(t, "their text", impl.ParcelText(usual, fifty), "")
}

// A Parcel of 200 segments has a text; one of 201 is right, but has none, and what would be it is refused.
func TestParcelsOfTheMostSegments(t *testing.T) {
	most, more := ofLines(20, 20, 20, 20, 20, 20, 20, 20, 9), ofLines(20, 20, 20, 20, 20, 20, 20, 20, 10)
	same(t, "most", len(toldPlainly(ixPlainly(most))), impl.MaxSegs)
	checkParcel(t, most)
	same(t, "more", len(toldPlainly(ixPlainly(more))), impl.MaxSegs+1)
	checkParcel(t, more)
	text := parcelTextPlainly(usual, more)
	at := int64(strings.LastIndex(text, "IXT"))
	same(t, "read", impl.ParcelRead(text), impl.ParcelOut{S: usual, At: at, Number: impl.MaxSegs, Code: impl.ErrMany})
	same(t, "most and a byte", impl.ParcelRead(parcelTextPlainly(usual, most)+"x"), impl.ParcelOut{S: usual, At: int64(len(parcelTextPlainly(usual, most))), Number: impl.MaxSegs, Code: impl.ErrMany})
}

// The longest lines that 200 segments can hold, each byte of their notes released.
func TestTheLongestParcelComesBack(t *testing.T) {
	p := impl.Parcel{From: "ABCDEFGHIJKL", To: "ABCDEFGHIJKL", Number: impl.MaxNumber}
	for _, lines := range []int64{20, 20, 20, 20, 20, 20, 20, 20, 9} {
		paper := impl.Paper{Kind: 6, Ref: "ABCDEFGHIJKL", Day: impl.MaxDay}
		for i := range lines {
			paper.Lines = append(paper.Lines, impl.Line{Item: "ABCDEFGHIJ" + number(10+i), Qty: -impl.MaxQty, Note: strings.Repeat("?", impl.MaxPart)})
		}
		p.Papers = append(p.Papers, paper)
	}
	text := impl.ParcelText(usual, p)
	if len(text) < 18000 || len(text) > impl.MaxBytes {
		t.Errorf("%d bytes", len(text))
	}
	checkParcel(t, p)
}

func TestTextsOfTheMostBytes(t *testing.T) {
	long := "SYN'+:?" + strings.Repeat("A", impl.MaxBytes-7)
	same(t, "most", impl.ParcelRead(long), impl.ParcelOut{S: usual, At: 7, Code: impl.ErrShort})
	same(t, "more", impl.ParcelRead(long+"A"), impl.ParcelOut{Code: impl.ErrSize})
	same(t, "more, and no syntax", impl.ParcelRead(strings.Repeat("A", impl.MaxBytes+1)), impl.ParcelOut{Code: impl.ErrSize})
	same(t, "most, and no syntax", impl.ParcelRead(strings.Repeat("A", impl.MaxBytes)), impl.ParcelOut{Code: impl.ErrSyntax})
	text := parcelTextPlainly(usual, ofKinds("1"))
	behind := text + strings.Repeat("'", impl.MaxBytes-len(text))
	same(t, "a Parcel and more", impl.ParcelRead(behind), impl.ParcelOut{S: usual, At: int64(len(text)), Number: 8 + 2, Code: impl.ErrSyntax})
	same(t, "a Parcel and too much", impl.ParcelRead(behind+"'"), impl.ParcelOut{Code: impl.ErrSize})
}

// readParcelPlainly tells what ParcelRead has to tell, step by step as chapter 7 names the faults. Where
// segments begin is counted off in the text, and a Parcel is what is told as just that text.
func readParcelPlainly(text string) impl.ParcelOut {
	syntax := impl.SyntaxRead(text)
	if syntax.Code != impl.OK {
		return impl.ParcelOut{Code: syntax.Code}
	}
	out := impl.ParcelOut{S: syntax.S}
	refuse := func(at int64, number int64, code int64) impl.ParcelOut {
		out.At, out.Number, out.Code = at, number, code
		return out
	}
	segs := impl.SegmentsRead(syntax.S, text[7:])
	if segs.Code != impl.OK {
		return refuse(7+segs.At, segs.Number, segs.Code)
	}
	starts := []int64{7}
	for _, piece := range impl.CutAt(syntax.S, text[7:], syntax.S.Seg) {
		starts = append(starts, starts[len(starts)-1]+int64(len(piece))+1)
	}
	read := impl.IxRead(segs.List)
	out.Head, out.Parcel = read.Head, impl.Parcel{From: read.Ix.From, To: read.Ix.To, Number: read.Ix.Number}
	if read.Code != impl.OK {
		return refuse(starts[read.At], read.At, read.Code)
	}
	var papers []impl.Paper
	kind, begin := int64(0), 0
	for at, g := range segs.List {
		switch g.Tag {
		case "GRH":
			kind = numberRead(g.Els[0].Parts[0])
		case "MSH":
			begin = at + 1
		case "MST":
			paper := impl.PaperOf(kind, segs.List[begin:at])
			if paper.Code != impl.OK {
				place := int64(begin) + paper.At
				return refuse(starts[place], place, paper.Code)
			}
			papers = append(papers, paper.Paper)
		}
	}
	whole := out.Parcel
	whole.Papers = papers
	if parcelTextPlainly(syntax.S, whole) != text {
		return refuse(7, 0, impl.ErrSyntax)
	}
	out.Parcel = whole
	return out
}

// checkText holds a text against what is plainly read, and what is taken against its text; it tells the code.
func checkText(t *testing.T, text string) int64 {
	t.Helper()
	out := impl.ParcelRead(text)
	same(t, "read", out, readParcelPlainly(text))
	if out.Code == impl.OK {
		same(t, "right", impl.ParcelRight(out.Parcel), true)
		same(t, "told", impl.ParcelText(out.S, out.Parcel), text)
	}
	if t.Failed() {
		t.Fatalf("of %q", text)
	}
	return out.Code
}

// Promise 7, the other way: each text that is one byte away from a Parcel's is refused, or another Parcel's.
func TestTextsWithOneByteChanged(t *testing.T) {
	order := impl.Paper{Kind: 1, Ref: "P", Day: 9, Notes: []string{"a'?"}, Lines: []impl.Line{{No: 1, Item: "A", Qty: 5, Money: 10}, {No: 2, Item: "B", Qty: 3}}}
	heard := impl.Paper{Kind: 7, Ref: "H", Day: 10, Lines: []impl.Line{{No: 3, Qty: 4}}}
	text := parcelTextPlainly(usual, impl.Parcel{From: "A", To: "B", Number: 12, Papers: []impl.Paper{order, heard, heard}})
	counts := map[int64]int{}
	for at := range len(text) {
		counts[checkText(t, text[:at])]++
		counts[checkText(t, text[at:])]++
		counts[checkText(t, text[:at]+text[at+1:])]++
		for _, b := range "'+:?01259-ABIXz \n\x7f" {
			counts[checkText(t, text[:at]+string(b)+text[at:])]++
			counts[checkText(t, text[:at]+string(b)+text[at+1:])]++
		}
	}
	for _, code := range []int64{impl.OK, impl.ErrSyntax, impl.ErrShort, impl.ErrSum, impl.ErrThere} {
		if counts[code] < 2 {
			t.Errorf("code %d came %d times only", code, counts[code])
		}
	}
}

// As above, by whole segments: left out, told twice, in another's place, or between others.
func TestTextsWithOneSegmentChanged(t *testing.T) {
	counts := map[int64]int{}
	strangers := []impl.Segment{seg("NOT", "x"), seg("LIN", "1", "2"), seg("LIN", "9", "BOLT", "5", "0"), seg("ITM", "A", "1"), seg("ACK", "0", "0"), seg("XYZ"), seg("GRH", "1", "1"), seg("MSH", "1"), seg("MST", "2", "1"), seg("GRT", "1", "1"), seg("IXT", "1", "7")}
	for _, p := range sampleParcels() {
		list := toldPlainly(ixPlainly(p))
		check := func(changed []impl.Segment) {
			t.Helper()
			counts[checkText(t, textPlainly(usual, changed))]++
		}
		for at := range list {
			check(slices.Delete(slices.Clone(list), at, at+1))
			check(slices.Insert(slices.Clone(list), at, list[at]))
			for _, g := range strangers {
				check(slices.Replace(slices.Clone(list), at, at+1, g))
				check(slices.Insert(slices.Clone(list), at, g))
			}
			if at > 0 {
				swapped := slices.Clone(list)
				swapped[at-1], swapped[at] = swapped[at], swapped[at-1]
				check(swapped)
			}
		}
	}
	for _, code := range []int64{impl.OK, impl.ErrSyntax, impl.ErrSum} {
		if counts[code] < 5 {
			t.Errorf("code %d came %d times only", code, counts[code])
		}
	}
}

// As above, with right counts round the change: so that faults of the Papers are met, each at its segment.
func TestFaultsOfPapersAreToldAtTheirSegments(t *testing.T) {
	counts := map[int64]int{}
	strangers := []impl.Segment{seg("DOC", "X", "1"), seg("NOT", "x"), seg("LIN", "1", "2"), seg("LIN", "9", "BOLT", "5", "0"), seg("LIN", "1", "ITEM-0", "5"), seg("ITM", "ITEM-0", "1"), seg("ACK", "0", "0"), seg("ACK", "0", "0", "0"), seg("XYZ")}
	for _, p := range append(sampleParcels(), ofLines(2, 20, 1)) {
		for bundle, b := range ixPlainly(p).Bundles {
			for message, m := range b.Messages {
				check := func(body []impl.Segment) {
					t.Helper()
					x := ixPlainly(p)
					x.Bundles[bundle].Messages[message].Body = body
					counts[checkText(t, textPlainly(other, toldPlainly(x)))]++
				}
				check(nil)
				for at := range m.Body {
					check(m.Body[:at])
					check(m.Body[at:])
					check(slices.Delete(slices.Clone(m.Body), at, at+1))
					check(slices.Insert(slices.Clone(m.Body), at, m.Body[at]))
					for _, g := range strangers {
						check(slices.Replace(slices.Clone(m.Body), at, at+1, g))
						check(slices.Insert(slices.Clone(m.Body), at+1, g))
					}
				}
			}
		}
	}
	for _, code := range []int64{impl.OK, impl.ErrSyntax, impl.ErrShort, impl.ErrMany, impl.ErrThere} {
		if counts[code] < 20 {
			t.Errorf("code %d came %d times only", code, counts[code])
		}
	}
}

// Numbers and Kinds that no Parcel's Interchange has.
func TestInterchangesOfNoParcel(t *testing.T) {
	p := ofKinds("11221")
	none := impl.ParcelOut{Parcel: parcel(), S: usual, Head: true, At: 7, Code: impl.ErrSyntax}
	check := func(what string, change func(x *impl.Interchange)) {
		t.Helper()
		x := ixPlainly(p)
		change(&x)
		text := textPlainly(usual, toldPlainly(x))
		same(t, what, impl.ParcelRead(text), none)
		checkText(t, text)
	}
	for bundle, b := range ixPlainly(p).Bundles {
		for _, n := range []int64{1, 2, 3, 4, 5, 10, impl.MaxNumber} {
			if n != b.Number {
				check("bundle", func(x *impl.Interchange) { x.Bundles[bundle].Number = n })
			}
			for at, m := range b.Messages {
				if n != m.Number {
					check("message", func(x *impl.Interchange) { x.Bundles[bundle].Messages[at].Number = n })
				}
			}
		}
	}
	check("two runs of one kind", func(x *impl.Interchange) {
		last := len(x.Bundles[0].Messages) - 1
		rest := impl.Bundle{Kind: 1, Number: 2, Messages: x.Bundles[0].Messages[last:]}
		x.Bundles = slices.Insert(x.Bundles, 1, rest)
		x.Bundles[0].Messages = x.Bundles[0].Messages[:last]
		x.Bundles[2].Number, x.Bundles[3].Number = 3, 4
	})
	check("bundles swapped", func(x *impl.Interchange) { x.Bundles[0], x.Bundles[1] = x.Bundles[1], x.Bundles[0] })
	check("messages swapped", func(x *impl.Interchange) { slices.Reverse(x.Bundles[1].Messages) })
	check("the last bundle alone", func(x *impl.Interchange) { x.Bundles = x.Bundles[2:] })
	check("numbers from 1 on in each bundle", func(x *impl.Interchange) { x.Bundles[1].Messages[0].Number, x.Bundles[1].Messages[1].Number = 1, 2 })
}

// Eleven Papers of one kind can't be told as two Bundles of it.
func TestTooLongARunIsNoParcelInTwoBundles(t *testing.T) {
	x := ixPlainly(ofKinds(strings.Repeat("2", 11)))
	refused := impl.ParcelOut{Parcel: parcel(), S: usual, Head: true, Number: 2 + 4*10, Code: impl.ErrSyntax}
	text := textPlainly(usual, toldPlainly(x))
	refused.At = int64(strings.Index(text, "MSH+11'"))
	same(t, "in one", impl.ParcelRead(text), refused)
	all := x.Bundles[0].Messages
	x.Bundles = []impl.Bundle{{Kind: 2, Number: 1, Messages: all[:10]}, {Kind: 2, Number: 2, Messages: all[10:]}}
	same(t, "in two", impl.ParcelRead(textPlainly(usual, toldPlainly(x))), impl.ParcelOut{Parcel: parcel(), S: usual, Head: true, At: 7, Code: impl.ErrSyntax})
	text = textPlainly(usual, toldPlainly(ixPlainly(ofKinds("252525"))))
	at := int64(strings.LastIndex(text, "GRH"))
	same(t, "six bundles", impl.ParcelRead(text), impl.ParcelOut{Parcel: parcel(), S: usual, Head: true, At: at, Number: 1 + 5*6, Code: impl.ErrSyntax})
}

func TestParcelReadNamesTheFirstFault(t *testing.T) {
	const head, tail = "SYN'+:?IXH+ACME+DOCK+7'GRH+1+1'MSH+1'", "GRT+1+1'IXT+1+7'"
	const long = "SYN'+:?IXH+ACME+DOCK+7'GRH+1+1'MSH+1'DOC+PO-1+9'LIN+1+BOLT+5'MST+2+1'MSH+2'"
	for _, c := range []struct {
		what   string
		text   string
		headed bool
		at     int64
		number int64
		code   int64
	}{
		{"a byte of the second segment", "SYN'+:?IXH+ACME+DOCK+7'GRH+1+1:'", false, 29, 1, impl.ErrSyntax},
		{"a release of nothing", head + "DOC+P?O'", false, 42, 3, impl.ErrSyntax},
		{"the last segment's end", head[:len(head)-1], false, 31, 2, impl.ErrShort},
		{"a released end", head + "DOC?'", false, 37, 3, impl.ErrShort},
		{"a segment's fault behind one of the head", "SYN'+:?IXH+ACME+dock+7'GRH+'", false, 27, 1, impl.ErrSyntax},
		{"a segment's fault behind a right Parcel", head + "DOC+PO-1+9'LIN+1+BOLT+5'MST+2+1'" + tail + "x'", false, 85, 8, impl.ErrSyntax},
		{"no head", "SYN'+:?ABC'", false, 7, 0, impl.ErrSyntax},
		{"a head of no name", "SYN'+:?IXH+ACME+dock+7'GRH+1+1'", false, 7, 0, impl.ErrSyntax},
		{"a head with a number too great", "SYN'+:?IXH+ACME+DOCK+1000000'", false, 7, 0, impl.ErrSyntax},
		{"a head alone", "SYN'+:?IXH+ACME+DOCK+7'", true, 23, 1, impl.ErrShort},
		{"no bundles", "SYN'+:?IXH+ACME+DOCK+7'IXT+0+7'", true, 23, 1, impl.ErrSyntax},
		{"an open message", head, true, 37, 3, impl.ErrShort},
		{"the last trailer is missing", head + "DOC+PO-1+9'LIN+1+BOLT+5'MST+2+1'GRT+1+1'", true, 77, 7, impl.ErrShort},
		{"behind the end", head + "DOC+PO-1+9'LIN+1+BOLT+5'MST+2+1'" + tail + "ABC'", true, 85, 8, impl.ErrSyntax},
		{"another number at the end", head + "DOC+PO-1+9'LIN+1+BOLT+5'MST+2+1'GRT+1+1'IXT+1+8'", true, 77, 7, impl.ErrSum},
		{"another number, ahead of a Paper's fault", head + "DOC+po+9'MST+1+1'GRT+1+1'IXT+1+8'", true, 62, 6, impl.ErrSum},
		{"a body of nothing", head + "MST+0+1'" + tail, true, 37, 3, impl.ErrShort},
		{"no lines", head + "DOC+PO-1+9'MST+1+1'" + tail, true, 48, 4, impl.ErrShort},
		{"a line's form", head + "DOC+PO-1+9'LIN+1+BOLT+0'MST+2+1'" + tail, true, 48, 4, impl.ErrSyntax},
		{"a No that falls", head + "DOC+PO-1+9'LIN+2+A+1'LIN+1+B+1'MST+3+1'" + tail, true, 58, 5, impl.ErrThere},
		{"a Money 0", head + "DOC+PO-1+9'LIN+2+A+1+0'MST+2+1'" + tail, true, 48, 4, impl.ErrSyntax},
		{"of another kind", head + "DOC+PO-1+9'ITM+A+1'MST+2+1'" + tail, true, 48, 4, impl.ErrShort},
		{"the second Paper", long + "DOC+PO-2+9'LIN+1+BOLT+0'MST+2+2'GRT+2+1'IXT+1+7'", true, 86, 8, impl.ErrSyntax},
		{"the second Paper's end", long + "DOC+PO-2+9'MST+1+2'GRT+2+1'IXT+1+7'", true, 86, 8, impl.ErrShort},
		{"a Paper's fault, behind other numbers", "SYN'+:?IXH+ACME+DOCK+7'GRH+1+9'MSH+8'DOC+PO-1+9'MST+1+8'GRT+1+9'IXT+1+7'", true, 48, 4, impl.ErrShort},
		{"numbers alone", "SYN'+:?IXH+ACME+DOCK+7'GRH+1+1'MSH+8'DOC+PO-1+9'LIN+1+BOLT+5'MST+2+8'GRT+1+1'IXT+1+7'", true, 7, 0, impl.ErrSyntax},
		{"a note with releases ahead", head + "DOC+PO-1+9'NOT+?'?+?:??'LIN+1+BOLT+0'MST+3+1'" + tail, true, 61, 5, impl.ErrSyntax},
	} {
		want := impl.ParcelOut{S: usual, Head: c.headed, At: c.at, Number: c.number, Code: c.code}
		if c.headed {
			want.Parcel = parcel()
		}
		same(t, c.what, impl.ParcelRead(c.text), want)
		checkText(t, c.text)
	}
}

func TestTextsOfNoSyntax(t *testing.T) {
	for _, text := range []string{"", "S", "SY", "SYN", "SYN'", "SYN'+:", "SYNSYN", "SYNaaa"} {
		same(t, text, impl.ParcelRead(text), impl.ParcelOut{Code: impl.ErrShort})
	}
	behind := parcelTextPlainly(usual, ofKinds("1"))[7:]
	for _, text := range []string{"X", "SX", "SYX'+:?", "syn'+:?", " SYN'+:?", "SYN'+:'", "SYN'+:-", "SYN'+:A", "SYN' :?", "SYN'+:\x7f"} {
		same(t, text, impl.ParcelRead(text), impl.ParcelOut{Code: impl.ErrSyntax})
		same(t, text, impl.ParcelRead(text+behind), impl.ParcelOut{Code: impl.ErrSyntax})
	}
	for _, s := range syntaxes {
		same(t, "nothing behind", impl.ParcelRead(impl.SyntaxText(s)), impl.ParcelOut{S: s, At: 7, Code: impl.ErrNone})
	}
	same(t, "another syntax's segments", impl.ParcelRead("SYN~*>\\"+behind), impl.ParcelOut{S: other, At: 7, Code: impl.ErrShort})
}

// Promise 7, its end: over all of these, two texts are the same just where both Parcels are.
func TestUnlikeParcelsHaveUnlikeTexts(t *testing.T) {
	var all []impl.Parcel
	for _, p := range append(sampleParcels(), sampleParcels()[:3]...) {
		all = append(all, p)
		for _, change := range parcelChanges() {
			one := copyOfParcel(p)
			change(&one)
			all = append(all, one)
		}
	}
	for _, paper := range samplePapers() {
		for _, change := range changesOf() {
			one := copyOfPaper(paper)
			change(&one)
			all = append(all, parcel(one))
		}
	}
	told := map[string]impl.Parcel{}
	for _, s := range syntaxes {
		for _, p := range all {
			text := impl.ParcelText(s, p)
			if text == "" {
				continue
			}
			first, there := told[text]
			if there && !impl.ParcelSame(first, p) {
				t.Errorf("%q is the text of two: %+v, %+v", text, first, p)
			}
			told[text] = p
		}
	}
	var texts []string
	for text := range told {
		texts = append(texts, text)
	}
	slices.Sort(texts)
	for at := 1; at < len(texts); at++ {
		if texts[at-1][:7] == texts[at][:7] && impl.ParcelSame(told[texts[at-1]], told[texts[at]]) {
			t.Errorf("one Parcel has two texts: %q, %q", texts[at-1], texts[at])
		}
	}
}

func TestParcelSame(t *testing.T) {
	changes := append(parcelChanges(),
		func(p *impl.Parcel) { p.Papers = p.Papers[:len(p.Papers)-1] },
		func(p *impl.Parcel) { p.Papers[len(p.Papers)-1].Lines[0].Money++ },
		func(p *impl.Parcel) { p.Papers[0].Notes = append(p.Papers[0].Notes, "") },
		func(p *impl.Parcel) { p.Papers[0].Kind = -1 })
	for _, p := range sampleParcels() {
		same(t, "itself", impl.ParcelSame(p, copyOfParcel(p)), true)
		for _, change := range changes {
			one := copyOfParcel(p)
			change(&one)
			want := one.From == p.From && one.To == p.To && one.Number == p.Number && slices.EqualFunc(one.Papers, p.Papers, impl.PaperSame)
			same(t, "changed", impl.ParcelSame(one, p), want)
			same(t, "turned round", impl.ParcelSame(p, one), want)
			same(t, "both", impl.ParcelSame(one, copyOfParcel(one)), true)
		}
	}
	none := impl.Parcel{Papers: []impl.Paper{}}
	same(t, "an empty list and none", impl.ParcelSame(none, impl.Parcel{}), true)
	same(t, "a zero Paper and none", impl.ParcelSame(impl.Parcel{Papers: []impl.Paper{{}}}, none), false)
	same(t, "empty lists within", impl.ParcelSame(impl.Parcel{Papers: []impl.Paper{{Lines: []impl.Line{}}}}, impl.Parcel{Papers: []impl.Paper{{}}}), true)
	long := impl.Parcel{Papers: make([]impl.Paper, impl.MaxList+1)}
	same(t, "long ones", impl.ParcelSame(long, copyOfParcel(long)), true)
}

func TestParcelsAreNewMemory(t *testing.T) {
	for at, p := range sampleParcels() {
		x := impl.ParcelIx(p)
		same(t, "names", within(x.From, p.From) || within(x.To, p.To), false)
		for _, b := range x.Bundles {
			for _, m := range b.Messages {
				checkBodyIsNew(t, m.Body, p)
				spoil(m.Body)
			}
			_ = append(b.Messages[:0], impl.Message{})
		}
		same(t, "told from", p, sampleParcels()[at])
		text := impl.ParcelText(usual, p)
		out := impl.ParcelRead(text)
		same(t, "read names", within(out.Parcel.From, text) || within(out.Parcel.To, text), false)
		for _, paper := range out.Parcel.Papers {
			same(t, "read", sharesText(text, paper), false)
		}
		refused := impl.ParcelRead(text[:len(text)-8]).Parcel
		same(t, "refused names", within(refused.From, text) || within(refused.To, text), false)
		impl.ParcelSame(p, out.Parcel)
		same(t, "asked", p, sampleParcels()[at])
	}
}

func checkBodyIsNew(t *testing.T, body []impl.Segment, p impl.Parcel) {
	t.Helper()
	for _, g := range body {
		for _, e := range g.Els {
			for _, paper := range p.Papers {
				same(t, "told", sharesText(e.Parts[0], paper), false)
			}
		}
	}
}
