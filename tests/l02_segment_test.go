package tests

import (
	"strings"
	"testing"
	"unsafe"

	"loop.example/g00096/impl"
)

// other is a Syntax of which no mark is one of the usual one's.
var other = impl.Syntax{Seg: '~', El: '*', Comp: '>', Rel: '\\'}

// seg puts a Segment together; parts of an element stand with | between.
func seg(tag string, els ...string) impl.Segment {
	g := impl.Segment{Tag: tag}
	for _, el := range els {
		g.Els = append(g.Els, impl.Element{Parts: strings.Split(el, "|")})
	}
	return g
}

func repeated(n int, el string) []string {
	var all []string
	for range n {
		all = append(all, el)
	}
	return all
}

// widest is the Segment with the longest text by the usual Syntax: each of its bytes is released.
func widest() impl.Segment {
	part := strings.Repeat("?", impl.MaxPart)
	return seg("ZZZ", repeated(impl.MaxEls, strings.Join(repeated(impl.MaxParts, part), "|"))...)
}

// rights are right Segments with the edges of what is right.
func rights() []impl.Segment {
	most := strings.Repeat("x", impl.MaxPart)
	return []impl.Segment{
		seg("ABC"), seg("AAA"), seg("ZZZ"), seg("LIN", "1", "a||b+c"), seg("LIN", "", "a"), seg("LIN", "", "", "a"),
		seg("LIN", "|a"), seg("LIN", "|||a"), seg("LIN", "a|b|c|d"), seg("LIN", "'", "+", ":", "?"), seg("LIN", "a", "|'"),
		seg("LIN", " "), seg("LIN", "~"), seg("LIN", " | "), seg("LIN", most), seg("LIN", most, most+"|"+most), widest(),
		seg("LIN", repeated(impl.MaxEls, "a")...), seg("LIN", append(repeated(impl.MaxEls-1, ""), "a")...),
	}
}

// wrongSegments are Segments that are not right, each for one reason.
func wrongSegments() []impl.Segment {
	more := strings.Repeat("x", impl.MaxPart+1)
	return []impl.Segment{
		{}, seg("AB"), seg("ABCD"), seg("abc"), seg("AB1"), seg("AB-"), seg("A@B"), seg("[AB"), seg("ABÄ"), seg(" AB"),
		seg("ABC", ""), seg("ABC", "a", ""), seg("ABC", "a|"), seg("ABC", "|"), seg("ABC", "a||"), seg("ABC", "a|", "b"),
		seg("ABC", "a|b|c|d|e"), seg("ABC", more), seg("ABC", "a|"+more), seg("ABC", more, "a"), seg("ABC", "\x1f"), seg("ABC", "\x7f"),
		seg("ABC", "\n"), seg("ABC", "a\x80"), seg("ABC", "\xff"), seg("ABC", repeated(impl.MaxEls+1, "a")...),
		{Tag: "ABC", Els: []impl.Element{{}}}, {Tag: "ABC", Els: []impl.Element{{}, {Parts: []string{"a"}}}},
		{Tag: "ABC", Els: []impl.Element{{Parts: []string{"a"}}, {Parts: []string{}}}},
	}
}

func TestSegmentRight(t *testing.T) {
	for _, g := range rights() {
		same(t, impl.SegmentText(usual, g), impl.SegmentRight(g), true)
	}
	for i, g := range wrongSegments() {
		if impl.SegmentRight(g) {
			t.Errorf("%d: %+v is not right", i, g)
		}
	}
	for b := range 256 {
		letter, printed := b >= 'A' && b <= 'Z', b >= 32 && b <= 126
		for _, tag := range []string{string([]byte{byte(b), 'B', 'C'}), string([]byte{'A', byte(b), 'C'}), string([]byte{'A', 'B', byte(b)})} {
			same(t, tag, impl.SegmentRight(seg(tag)), letter)
		}
		part := string([]byte{'a', byte(b)})
		same(t, part, impl.SegmentRight(impl.Segment{Tag: "ABC", Els: []impl.Element{{Parts: []string{part}}}}), printed)
	}
}

func TestSegmentText(t *testing.T) {
	same(t, "no element", impl.SegmentText(usual, seg("ABC")), "ABC'")
	same(t, "elements", impl.SegmentText(usual, seg("LIN", "", "1", "a||b+c")), "LIN++1+a::b?+c'")
	same(t, "marks", impl.SegmentText(usual, seg("LIN", "'|+|:|?", "~*>\\")), "LIN+?':?+:?::??+~*>\\'")
	same(t, "another syntax", impl.SegmentText(other, seg("LIN", "'|+", "~*>\\")), "LIN*'>+*\\~\\*\\>\\\\~")
	same(t, "widest", len(impl.SegmentText(usual, widest())), 3+impl.MaxEls*impl.MaxParts*(1+2*impl.MaxPart)+1)
	for _, g := range wrongSegments() {
		same(t, "not right", impl.SegmentText(usual, g), "")
	}
	for _, s := range wrongs {
		same(t, "wrong syntax", impl.SegmentText(s, seg("ABC", "a")), "")
	}
}

func TestSegmentReadFaults(t *testing.T) {
	most := strings.Repeat("x", impl.MaxPart)
	released := strings.Repeat("?+", impl.MaxPart)
	cases := []struct {
		text string
		code int64
		at   int64
	}{
		{"", impl.ErrNone, 0},
		{"A", impl.ErrShort, 0}, {"ABC", impl.ErrShort, 0}, {"ABC+a?'", impl.ErrShort, 0}, {"ABC+a???'", impl.ErrShort, 0},
		{"abc++:::::+?x", impl.ErrShort, 0}, {"?'", impl.ErrShort, 0}, {"ABC+?", impl.ErrShort, 0}, {"ABC?'+a", impl.ErrShort, 0},
		{"'", impl.ErrSyntax, 0}, {"AB'", impl.ErrSyntax, 0}, {"ABCD'", impl.ErrSyntax, 0}, {"AbC+?x'", impl.ErrSyntax, 0},
		{"+ABC'", impl.ErrSyntax, 0}, {"ABC:a'", impl.ErrSyntax, 0}, {"ABC?+a'", impl.ErrSyntax, 0}, {"A?BC'", impl.ErrSyntax, 0},
		{"??'", impl.ErrSyntax, 0}, {"'ABC'", impl.ErrSyntax, 0}, {"AB+a:'", impl.ErrSyntax, 0}, {"\nABC'", impl.ErrSyntax, 0},
		{"ABC+'", impl.ErrSyntax, 4}, {"ABC++'", impl.ErrSyntax, 5}, {"ABC+a+'", impl.ErrSyntax, 6}, {"ABC+a++'", impl.ErrSyntax, 7},
		{"ABC+:'", impl.ErrSyntax, 4}, {"ABC+a:'", impl.ErrSyntax, 4}, {"ABC+a+b::'", impl.ErrSyntax, 6}, {"ABC+a:+b'", impl.ErrSyntax, 4},
		{"ABC+a:b:c:d:e'", impl.ErrSyntax, 4}, {"ABC+a+::::'", impl.ErrSyntax, 6}, {"ABC+a+?x::::'", impl.ErrSyntax, 6},
		{"ABC+?x'", impl.ErrSyntax, 4}, {"ABC+ab?c'", impl.ErrSyntax, 6}, {"ABC+a:b??:cd?e'", impl.ErrSyntax, 12},
		{"ABC+a:?b:'", impl.ErrSyntax, 6}, {"ABC+\n:?b'", impl.ErrSyntax, 4}, {"ABC+a:b\n:?b'", impl.ErrSyntax, 6},
		{"ABC+a:\x7f'", impl.ErrSyntax, 6}, {"ABC+a:b?c\n'", impl.ErrSyntax, 7}, {"ABC+a:bc\x1fd+?x'", impl.ErrSyntax, 6},
		{"ABC+a\xff?x'", impl.ErrSyntax, 6}, {"ABC+?\n'", impl.ErrSyntax, 4}, {"ABC+?+:b\n'", impl.ErrSyntax, 7},
		{"ABC+a:+?x'", impl.ErrSyntax, 4}, {"ABC+?x+'", impl.ErrSyntax, 4}, {"ABC+a++b:c:?d+'", impl.ErrSyntax, 11},
		{"ABC+" + most + "x'", impl.ErrSyntax, 4}, {"ABC+a:" + most + "x:b'", impl.ErrSyntax, 6}, {"ABC+" + most + "x?x'", impl.ErrSyntax, 45},
		{"ABC+" + released + "a'", impl.ErrSyntax, 4}, {"ABC+" + released + ":" + released + "a'", impl.ErrSyntax, 85},
		{"ABC" + strings.Repeat("+a", impl.MaxEls) + "+b'", impl.ErrSyntax, 24}, {"ABC" + strings.Repeat("+", impl.MaxEls) + "a+'", impl.ErrSyntax, 15},
		{"ABC" + strings.Repeat("+a", impl.MaxEls) + "+?x+b'", impl.ErrSyntax, 24}, {"ABC" + strings.Repeat("+a", impl.MaxEls) + "+b+c'", impl.ErrSyntax, 24},
		{"ABC" + strings.Repeat("+a", impl.MaxEls-1) + "+b:+c'", impl.ErrSyntax, 22}, {"ABC+a:" + strings.Repeat("+a", impl.MaxEls) + "'", impl.ErrSyntax, 4},
	}
	for _, c := range cases {
		same(t, c.text, impl.SegmentRead(usual, c.text), impl.SegOut{At: c.at, Code: c.code})
		if c.code == impl.ErrSyntax {
			same(t, c.text, impl.SegmentRead(usual, c.text+"ABC'"), impl.SegOut{At: c.at, Code: c.code})
		}
	}
}

func TestSegmentReadRefusesFirstBySizeThenByForm(t *testing.T) {
	large := "ABC'" + strings.Repeat("a", impl.MaxBytes-4)
	same(t, "largest", impl.SegmentRead(usual, large), impl.SegOut{Segment: seg("ABC"), Used: 4})
	same(t, "too large", impl.SegmentRead(usual, large+"a"), impl.SegOut{Code: impl.ErrSize})
	same(t, "largest element", impl.SegmentRead(usual, "ABC+"+strings.Repeat("a", impl.MaxBytes-5)+"'"), impl.SegOut{At: 4, Code: impl.ErrSyntax})
	for _, s := range wrongs {
		same(t, "both", impl.SegmentRead(s, large+"a"), impl.SegOut{Code: impl.ErrSize})
		same(t, "none", impl.SegmentRead(s, ""), impl.SegOut{Code: impl.ErrForm})
		same(t, "form", impl.SegmentRead(s, "ABC+a'"), impl.SegOut{Code: impl.ErrForm})
	}
}

// segmentsOver gives every Segment, right or not, of at most two elements of at most three parts of at most one of those bytes.
func segmentsOver(letters string) []impl.Segment {
	parts := textsOf(letters, 1)
	elements := [][]string{}
	for _, a := range parts {
		elements = append(elements, []string{a})
		for _, b := range parts {
			elements = append(elements, []string{a, b})
			for _, c := range parts {
				elements = append(elements, []string{a, b, c})
			}
		}
	}
	all := []impl.Segment{{Tag: "ABC"}}
	for _, first := range elements {
		all = append(all, impl.Segment{Tag: "ABC", Els: []impl.Element{{Parts: first}}})
		for _, second := range elements {
			all = append(all, impl.Segment{Tag: "ABC", Els: []impl.Element{{Parts: first}, {Parts: second}}})
		}
	}
	return all
}

// Promise 3, over all short segments: each comes back, whatever stands behind it.
func TestSegmentsComeBack(t *testing.T) {
	for _, g := range append(segmentsOver("'+:?a"), rights()...) {
		text := impl.SegmentText(usual, g)
		if !impl.SegmentRight(g) {
			same(t, "not right", text, "")
			continue
		}
		want := impl.SegOut{Segment: g, Used: int64(len(text))}
		for _, behind := range []string{"", "ABC'", "'", "?", "+"} {
			same(t, text+behind, impl.SegmentRead(usual, text+behind), want)
		}
		same(t, text, impl.SegmentRead(usual, text[:len(text)-1]), impl.SegOut{Code: impl.ErrShort})
	}
}

// Promise 3, its second half, over all short texts: what is read is told as just what stood there, and
// what is refused is the text of no Segment.
func TestWhatIsReadIsToldAsItStood(t *testing.T) {
	told := map[string]bool{}
	for _, g := range segmentsOver("'+:?a") {
		told[impl.SegmentText(usual, g)] = true
	}
	for _, tail := range textsOf("'+:?a\n", 6) {
		text := "ABC" + tail
		out := impl.SegmentRead(usual, text)
		if out.Code == impl.OK {
			same(t, text, impl.SegmentText(usual, out.Segment), text[:out.Used])
			same(t, text, out.At, int64(0))
			continue
		}
		if told[text] || out.Used != 0 || out.Segment.Tag != "" || out.Segment.Els != nil || out.Code != impl.ErrShort && out.Code != impl.ErrSyntax {
			t.Errorf("%q: answered %+v", text, out)
		}
	}
}

func TestSegmentsText(t *testing.T) {
	same(t, "none", impl.SegmentsText(usual, nil), "")
	same(t, "two", impl.SegmentsText(usual, []impl.Segment{seg("ABC"), seg("DEF", "a|b")}), "ABC'DEF+a:b'")
	for _, g := range wrongSegments() {
		same(t, "first", impl.SegmentsText(usual, []impl.Segment{g, seg("ABC")}), "")
		same(t, "last", impl.SegmentsText(usual, []impl.Segment{seg("ABC"), seg("ABC"), g}), "")
	}
	for _, s := range wrongs {
		same(t, "wrong syntax", impl.SegmentsText(s, []impl.Segment{seg("ABC")}), "")
	}
}

func segmentsOf(n int) []impl.Segment {
	var list []impl.Segment
	for range n {
		list = append(list, seg("ABC"))
	}
	return list
}

func TestSegmentsTextLimits(t *testing.T) {
	same(t, "most", impl.SegmentsText(usual, segmentsOf(impl.MaxSegs)), strings.Repeat("ABC'", impl.MaxSegs))
	for _, n := range []int{impl.MaxSegs + 1, impl.MaxList, impl.MaxList + 1} {
		same(t, "too many", impl.SegmentsText(usual, segmentsOf(n)), "")
	}
	// Each of these has 3,244 bytes: six leave 536, which one more Segment fills to the last byte.
	list := []impl.Segment{widest(), widest(), widest(), widest(), widest(), widest()}
	rest := impl.MaxBytes - len(impl.SegmentsText(usual, list))
	line := strings.Repeat("a", impl.MaxPart)
	last := seg("ABC", append(repeated(5, line+"|"+line), line, line, strings.Repeat("a", impl.MaxPart-1))...)
	same(t, "rest", len(impl.SegmentText(usual, last)), rest)
	full := impl.SegmentsText(usual, append(list, last))
	same(t, "largest", len(full), impl.MaxBytes)
	same(t, "largest comes back", impl.SegmentsRead(usual, full), impl.SegsOut{List: append(list, last)})
	last.Els[7].Parts[0] += "a"
	same(t, "too large", impl.SegmentsText(usual, append(list, last)), "")
}

// Promise 3: one behind the other.
func TestSegmentListsComeBack(t *testing.T) {
	list := rights()
	for _, s := range []impl.Syntax{usual, other} {
		for from := range list {
			for to := from; to <= min(len(list), from+6); to++ {
				text := impl.SegmentsText(s, list[from:to])
				out := impl.SegmentsRead(s, text)
				same(t, text, len(out.List), to-from)
				same(t, text, impl.SegmentsText(s, out.List), text)
				for i, g := range out.List {
					same(t, text, g, list[from+i])
				}
				same(t, text, [3]int64{out.At, out.Number, out.Code}, [3]int64{})
			}
		}
	}
}

func TestSegmentsReadFaults(t *testing.T) {
	cases := []struct {
		text   string
		code   int64
		number int64
		at     int64
	}{
		{"A", impl.ErrShort, 0, 0}, {"ABC'DEF", impl.ErrShort, 1, 4}, {"ABC'DEF+a'G", impl.ErrShort, 2, 10}, {"ABC'DEF+a?'", impl.ErrShort, 1, 4},
		{"ABC''", impl.ErrSyntax, 1, 4}, {"'ABC'", impl.ErrSyntax, 0, 0}, {"ABC'DEF+'", impl.ErrSyntax, 1, 8}, {"ABC'DEF+a:?b'GH'", impl.ErrSyntax, 1, 10},
		{"ABC'\nDEF'", impl.ErrSyntax, 1, 4}, {"ABC'DEF'\n", impl.ErrShort, 2, 8}, {"ABC+a'DEF+b:c:'GHI", impl.ErrSyntax, 1, 10},
	}
	for _, c := range cases {
		same(t, c.text, impl.SegmentsRead(usual, c.text), impl.SegsOut{At: c.at, Number: c.number, Code: c.code})
	}
	same(t, "none", impl.SegmentsRead(usual, ""), impl.SegsOut{})
}

func TestSegmentsReadLimits(t *testing.T) {
	most := strings.Repeat("ABC'", impl.MaxSegs)
	same(t, "most", impl.SegmentsRead(usual, most), impl.SegsOut{List: segmentsOf(impl.MaxSegs)})
	many := impl.SegsOut{At: 4 * impl.MaxSegs, Number: impl.MaxSegs, Code: impl.ErrMany}
	for _, behind := range []string{"ABC'", "A", "'", "?", "ABC'A"} {
		same(t, "many "+behind, impl.SegmentsRead(usual, most+behind), many)
	}
	last := impl.SegsOut{At: 4*impl.MaxSegs - 4, Number: impl.MaxSegs - 1, Code: impl.ErrShort}
	same(t, "short ahead of many", impl.SegmentsRead(usual, most[:len(most)-1]), last)
	large := strings.Repeat("ABC+aaaa'", 100) + strings.Repeat("a", impl.MaxBytes-900)
	same(t, "largest", impl.SegmentsRead(usual, large), impl.SegsOut{At: 900, Number: 100, Code: impl.ErrShort})
	same(t, "too large", impl.SegmentsRead(usual, large+"a"), impl.SegsOut{Code: impl.ErrSize})
	for _, s := range wrongs {
		same(t, "both", impl.SegmentsRead(s, large+"a"), impl.SegsOut{Code: impl.ErrSize})
		same(t, "none", impl.SegmentsRead(s, ""), impl.SegsOut{Code: impl.ErrForm})
		same(t, "form", impl.SegmentsRead(s, "ABC'"), impl.SegsOut{Code: impl.ErrForm})
	}
}

func TestPartOf(t *testing.T) {
	g := impl.Segment{Tag: "no", Els: []impl.Element{{Parts: []string{"a"}}, {}, {Parts: []string{"", "b\n", "c", "d", "e"}}}}
	want := map[[2]int64]string{{0, 0}: "a", {2, 1}: "b\n", {2, 2}: "c", {2, 3}: "d", {2, 4}: "e"}
	far := []int64{-1 << 63, -1 << 32, -1, 0, 1, 2, 3, 4, 5, 1 << 32, 1<<63 - 1}
	for _, el := range far {
		for _, part := range far {
			same(t, "part", impl.PartOf(g, el, part), want[[2]int64{el, part}])
		}
	}
	same(t, "none", impl.PartOf(impl.Segment{}, 0, 0), "")
	long := strings.Repeat("a", impl.MaxBytes+1)
	same(t, "of any", impl.PartOf(impl.Segment{Els: []impl.Element{{Parts: []string{long}}}}, 0, 0), long)
}

// within: does a stand in the memory of b?
func within(a string, b string) bool {
	from, at := uintptr(unsafe.Pointer(unsafe.StringData(b))), uintptr(unsafe.Pointer(unsafe.StringData(a)))
	return a != "" && at >= from && at < from+uintptr(len(b))
}

func TestSegmentsAreNewMemory(t *testing.T) {
	long := strings.Repeat("abc", 12)
	text := "LIN+" + long + ":" + long + "+" + long + "'"
	out := impl.SegmentsRead(usual, text+text)
	first, second := out.List[0], out.List[1]
	for _, piece := range []string{first.Tag, first.Els[0].Parts[1], first.Els[1].Parts[0], second.Tag, second.Els[0].Parts[0]} {
		same(t, piece, within(piece, text), false)
	}
	first.Els[0].Parts[0] = "x"
	first.Els[0].Parts = append(first.Els[0].Parts, "y")
	first.Els = append(first.Els, impl.Element{})
	same(t, "beside", out.List[0].Els[1], seg("LIN", long).Els[0])
	same(t, "behind", second, seg("LIN", long+"|"+long, long))
	g := seg("ABC", long)
	same(t, "part", within(impl.PartOf(g, 0, 0), g.Els[0].Parts[0]), false)
}
