package tests

import (
	"math"
	"regexp"
	"slices"
	"strings"
	"testing"

	"loop.example/g00096/impl"
)

// kinds are the tables as the document has them.
var kinds = []struct {
	kind int64
	name string
	rows []impl.Row
}{
	{impl.KindOrder, "ORDER", []impl.Row{{Tag: "DOC", Least: 1, Most: 1, Form: "rd"}, {Tag: "NOT", Least: 0, Most: 2, Form: "t"}, {Tag: "LIN", Least: 1, Most: 20, Form: "nrq?n"}}},
	{impl.KindAnswer, "ANSWER", []impl.Row{{Tag: "DOC", Least: 1, Most: 1, Form: "rrd"}, {Tag: "LIN", Least: 1, Most: 20, Form: "nq?t"}}},
	{impl.KindSent, "SENT", []impl.Row{{Tag: "DOC", Least: 1, Most: 1, Form: "rrd"}, {Tag: "NOT", Least: 0, Most: 2, Form: "t"}, {Tag: "LIN", Least: 1, Most: 20, Form: "nq"}}},
	{impl.KindGot, "GOT", []impl.Row{{Tag: "DOC", Least: 1, Most: 1, Form: "rrd"}, {Tag: "LIN", Least: 1, Most: 20, Form: "nq?t"}}},
	{impl.KindStock, "STOCK", []impl.Row{{Tag: "DOC", Least: 1, Most: 1, Form: "rd"}, {Tag: "ITM", Least: 1, Most: 20, Form: "rn"}}},
	{impl.KindAdjust, "ADJUST", []impl.Row{{Tag: "DOC", Least: 1, Most: 1, Form: "rd"}, {Tag: "ITM", Least: 1, Most: 20, Form: "rz?t"}}},
	{impl.KindHeard, "HEARD", []impl.Row{{Tag: "DOC", Least: 1, Most: 1, Form: "rd"}, {Tag: "ACK", Least: 1, Most: 1, Form: "nn?n"}}},
}

var wrongKinds = []int64{0, -1, 8, 9, 100, 1 << 32, 1<<32 + 1, math.MaxInt64, math.MinInt64}

func TestTables(t *testing.T) {
	for i, k := range kinds {
		same(t, "number of "+k.name, k.kind, int64(i)+1)
		same(t, "name of "+k.name, impl.KindName(k.kind), k.name)
		same(t, "rows of "+k.name, impl.TableOf(k.kind), k.rows)
		for at, row := range k.rows {
			same(t, "tag of "+k.name, impl.TagOf(k.kind, int64(at)), row.Tag)
		}
		for _, at := range []int64{-1, int64(len(k.rows)), 1 << 32, math.MaxInt64, math.MinInt64} {
			same(t, "no tag of "+k.name, impl.TagOf(k.kind, at), "")
		}
	}
	for _, kind := range wrongKinds {
		same(t, "no name", impl.KindName(kind), "")
		same(t, "no rows", len(impl.TableOf(kind)), 0)
		same(t, "no tag", impl.TagOf(kind, 0), "")
	}
}

func TestRowsAreNewMemory(t *testing.T) {
	rows := impl.TableOf(impl.KindOrder)
	for at := range rows {
		rows[at] = impl.Row{Tag: "XXX", Most: 9, Form: "t"}
	}
	rows = append(rows[:1], impl.Row{Tag: "YYY"})
	same(t, "changed", rows[1].Tag, "YYY")
	same(t, "rows", impl.TableOf(impl.KindOrder), kinds[0].rows)
	same(t, "tag", impl.TagOf(impl.KindOrder, 1), "NOT")
	same(t, "check", impl.TableCheck(impl.KindOrder, bodyOf(0, "DL")), impl.TableOut{})
}

// words are parts with the letters that take them.
var words = []struct {
	word    string
	letters string
}{
	{"", ""}, {" ", "t"}, {"~", "t"}, {"\x1f", ""}, {"\x7f", ""}, {"\x00", ""}, {"\xff", ""}, {"Ä", ""}, {"a\nb", ""},
	{"A", "rt"}, {"Z", "rt"}, {"A-9", "rt"}, {"A-", "rt"}, {"ABCDEFGHIJKL", "rt"}, {"ABCDEFGHIJKLM", "t"}, {"a", "t"}, {"Ab", "t"}, {"A b", "t"}, {"-A", "t"}, {"A_", "t"},
	{"0", "ndt"}, {"1", "nqzdt"}, {"9", "nqzdt"}, {"10", "nqzdt"}, {"-1", "zt"}, {"-10", "zt"},
	{"99999", "nqzdt"}, {"100000", "nqzdt"}, {"100001", "nqzt"}, {"999999", "nqzt"}, {"1000000", "nqzt"}, {"1000001", "nt"},
	{"-100001", "zt"}, {"-999999", "zt"}, {"-1000000", "zt"}, {"-1000001", "t"},
	{"999999999", "nt"}, {"1000000000", "nt"}, {"1000000001", "t"}, {"-1000000000", "t"},
	{"9223372036854775807", "t"}, {"9223372036854775808", "t"}, {"18446744073709551616", "t"}, {"18446744073709551617", "t"}, {"-18446744073709551615", "t"},
	{"00", "t"}, {"01", "t"}, {"-0", "t"}, {"-01", "t"}, {"+1", "t"}, {"--1", "t"}, {"-+1", "t"}, {"-", "t"}, {" 1", "t"}, {"1 ", "t"}, {"- 1", "t"}, {"1.0", "t"}, {"1e1", "t"}, {"0x1", "t"}, {"1_0", "t"}, {"1-", "t"}, {"٣", ""},
	{strings.Repeat("a", impl.MaxPart), "t"}, {strings.Repeat("a", impl.MaxPart+1), ""},
	{strings.Repeat("1", impl.MaxPart), "t"}, {strings.Repeat("1", impl.MaxPart+1), ""}, {strings.Repeat("0", impl.MaxBytes+1), ""},
}

func TestEachLetterTakesItsWords(t *testing.T) {
	for _, w := range words {
		for _, letter := range []string{"r", "n", "q", "z", "d", "t"} {
			want := int64(0)
			if strings.Contains(w.letters, letter) {
				want = -1
			}
			one := impl.Element{Parts: []string{w.word}}
			same(t, letter+" of "+w.word, impl.FormRight(letter, impl.Segment{Els: []impl.Element{one}}), want)
			same(t, letter+" perhaps of "+w.word, impl.FormRight("?"+letter, impl.Segment{Els: []impl.Element{one}}), want)
			for _, e := range []impl.Element{{}, {Parts: []string{w.word, w.word}}, {Parts: []string{w.word, ""}}, {Parts: []string{"", w.word}}} {
				same(t, letter+" of other than one part", impl.FormRight(letter, impl.Segment{Els: []impl.Element{e}}), int64(0))
			}
		}
	}
}

// placeByForm tells what FormRight has to tell of words, from how many of them fit from the first on.
func placeByForm(form string, els []string) int64 {
	letters := strings.ReplaceAll(form, "?", "")
	if len(form)-len(letters) > 1 || strings.ContainsAny(letters, "xR1 ") {
		return 0
	}
	least := strings.Index(form+"?", "?")
	fit := 0
	for fit < min(len(letters), len(els)) && strings.Contains(lettersOf(els[fit]), letters[fit:fit+1]) {
		fit++
	}
	if fit == len(els) && fit >= least {
		return -1
	}
	return int64(fit)
}

func lettersOf(word string) string {
	for _, w := range words {
		if w.word == word {
			return w.letters
		}
	}
	return ""
}

// listsOf gives all lists of at most so many of these words.
func listsOf(most int, from ...string) [][]string {
	all, last := [][]string{nil}, [][]string{nil}
	for range most {
		var next [][]string
		for _, list := range last {
			for _, word := range from {
				next = append(next, append(slices.Clone(list), word))
			}
		}
		all, last = append(all, next...), next
	}
	return all
}

func TestEveryShortForm(t *testing.T) {
	lists := listsOf(4, "A", "1", "-1", "")
	for _, form := range textsOf("rzt?x", 4) {
		for _, els := range lists {
			if got, want := impl.FormRight(form, seg("LIN", els...)), placeByForm(form, els); got != want {
				t.Fatalf("%q of %q: got %d, want %d", form, els, got, want)
			}
		}
	}
}

func TestFormRightNamesTheFirstFault(t *testing.T) {
	for _, c := range []struct {
		form string
		els  []string
		want int64
	}{
		{"", nil, -1}, {"", []string{"A"}, 0}, {"?", nil, -1}, {"?", []string{"A"}, 0}, {"?n", nil, -1}, {"n?", nil, 0}, {"n?", []string{"1"}, -1}, {"n?", []string{"1", "1"}, 1},
		{"nrq?n", []string{"1", "A", "5"}, -1}, {"nrq?n", []string{"1", "A", "5", "0"}, -1}, {"nrq?n", []string{"1", "A", "5", "0", "0"}, 4},
		{"nrq?n", []string{"1", "A"}, 2}, {"nrq?n", nil, 0}, {"nrq?n", []string{"1", "A", "0"}, 2}, {"nrq?n", []string{"1", "A", "5", ""}, 3}, {"nrq?n", []string{"1", "A", "5", "-1"}, 3},
		{"nrq?n", []string{"A", "1"}, 0}, {"nrq?n", []string{"1", "1"}, 1}, {"nr", []string{"1", "1", "1"}, 1}, {"nr", []string{"1", "A", "1"}, 2},
		{"r?nt", []string{"A", "", "a"}, 1}, {"r?nt", []string{"A", "1", "a"}, -1}, {"r?nt", []string{"A", "1"}, -1}, {"r?nt", []string{"A"}, -1}, {"r?nt", nil, 0},
		{"nnnnnnnnnnn", repeated(11, "1"), -1}, {"nnnnnnnnnnn", repeated(12, "1"), 11}, {"nnnnnnnnnnn", repeated(10, "1"), 10},
		{"rxt", []string{"A", "1", "a"}, 0}, {"rtx", []string{"A", "a"}, 0}, {"rt?x", []string{"A", "a"}, 0}, {"rt??", []string{"A", "1"}, 0}, {"r?t?n", []string{"A", "a"}, 0}, {"?r?", nil, 0}, {"??", nil, 0},
		{"R", []string{"A"}, 0}, {"N", []string{"1"}, 0}, {" r", []string{"A"}, 0}, {"r ", []string{"A"}, 0}, {"r\x00", []string{"A"}, 0}, {"ä", nil, 0}, {"\xff", nil, 0}, {"x", nil, 0}, {"-", nil, 0},
	} {
		same(t, c.form+" of "+strings.Join(c.els, ","), impl.FormRight(c.form, seg("LIN", c.els...)), c.want)
	}
}

func TestFormsThatAreTooLong(t *testing.T) {
	most := strings.Repeat("n", impl.MaxBytes)
	same(t, "most", impl.FormRight(most, seg("LIN", repeated(impl.MaxBytes, "1")...)), int64(-1))
	same(t, "most, and one is missing", impl.FormRight(most, seg("LIN", "1", "2")), int64(2))
	same(t, "more, of as many", impl.FormRight(most+"n", seg("LIN", repeated(impl.MaxBytes+1, "1")...)), int64(0))
	same(t, "more, of fewer", impl.FormRight(most+"n", seg("LIN", "1", "2")), int64(0))
	same(t, "more, that may be missing", impl.FormRight("?"+most, seg("LIN")), int64(0))
}

func TestFormRightLooksAtElementsAlone(t *testing.T) {
	for _, tag := range []string{"", "LIN", "lin", "IXH", "\xff"} {
		same(t, "tag "+tag, impl.FormRight("rn", seg(tag, "A", "1")), int64(-1))
		same(t, "tag "+tag, impl.FormRight("rn", seg(tag, "A", "B")), int64(1))
	}
}

// tagOf has a Tag for each letter with which tests write a body.
var tagOf = map[rune]string{'D': "DOC", 'N': "NOT", 'L': "LIN", 'I': "ITM", 'A': "ACK", 'X': "XYZ"}

// takes are the bodies of each table, with a letter for a segment.
var takes = []string{"DN{0,2}L{1,20}", "DL{1,20}", "DN{0,2}L{1,20}", "DL{1,20}", "DI{1,20}", "DI{1,20}", "DA"}

// begins are the bodies that some more segments, or none, make to such.
var begins = []string{"(DN{0,2}L{0,20})?", "(DL{0,20})?", "(DN{0,2}L{0,20})?", "(DL{0,20})?", "(DI{0,20})?", "(DI{0,20})?", "(DA?)?"}

// lasts are the letters of the last rows.
const lasts = "LLLLIIA"

// rightOf has for each letter of a form a word that it takes.
var rightOf = map[rune]string{'r': "BOLT", 'n': "0", 'q': "5", 'z': "-3", 'd': "9", 't': "some words"}

// ofForm gives a segment of the form; those elements that may be missing stand there, if all is true.
func ofForm(tag string, form string, all bool) impl.Segment {
	g := impl.Segment{Tag: tag}
	for _, letter := range form {
		if letter == '?' && !all {
			break
		}
		if letter != '?' {
			g.Els = append(g.Els, impl.Element{Parts: []string{rightOf[letter]}})
		}
	}
	return g
}

// bodyOf writes a body for the table at that place: of the table's forms, where it has that Tag.
func bodyOf(table int, letters string) []impl.Segment {
	var body []impl.Segment
	for i, letter := range letters {
		g := seg(tagOf[letter], "A")
		for _, row := range kinds[table].rows {
			if row.Tag == g.Tag {
				g = ofForm(row.Tag, row.Form, i%2 == 0)
			}
		}
		body = append(body, g)
	}
	return body
}

func matches(pattern string, text string) bool {
	return regexp.MustCompile("^(" + pattern + ")$").MatchString(text)
}

// tagFault tells what the Tags alone come to: At is where no body of the table goes on so.
func tagFault(table int, letters string) impl.TableOut {
	at := len(letters)
	for !matches(begins[table], letters[:at]) {
		at--
	}
	switch {
	case !matches(takes[table], letters[:at]):
		return impl.TableOut{At: int64(at), Code: impl.ErrShort}
	case at == len(letters):
		return impl.TableOut{}
	case letters[at] == lasts[table]:
		return impl.TableOut{At: int64(at), Code: impl.ErrMany}
	}
	return impl.TableOut{At: int64(at), Code: impl.ErrSyntax}
}

// lettersFor are the letters of the table's Tags, and two others.
func lettersFor(table int) string {
	return []string{"DNLX", "DLNX", "DNLX", "DLNX", "DILX", "DILX", "DALX"}[table]
}

func TestTablesTakeJustTheirRows(t *testing.T) {
	for table, k := range kinds {
		for _, letters := range textsOf(lettersFor(table), 5) {
			body := bodyOf(table, letters)
			fault := tagFault(table, letters)
			if got := impl.TableCheck(k.kind, body); got != fault {
				t.Fatalf("%s %s: got %+v, want %+v", k.name, letters, got, fault)
			}
			checkSpoiltForms(t, table, letters, fault)
		}
	}
}

// checkSpoiltForms: a segment of wrong form is the fault where it is reached, and is not seen elsewhere.
func checkSpoiltForms(t *testing.T, table int, letters string, fault impl.TableOut) {
	for at := range letters {
		body := bodyOf(table, letters)
		el := int64(len(body[at].Els))
		body[at].Els = append(body[at].Els, impl.Element{Parts: []string{"a", "b"}})
		want := fault
		if fault.Code == impl.OK || int64(at) < fault.At {
			want = impl.TableOut{At: int64(at), El: el, Code: impl.ErrSyntax}
		}
		if got := impl.TableCheck(kinds[table].kind, body); got != want {
			t.Fatalf("%s %s with a fault at %d: got %+v, want %+v", kinds[table].name, letters, at, got, want)
		}
	}
}

func TestEachElementIsHeldToItsForm(t *testing.T) {
	for table, k := range kinds {
		for row, r := range k.rows {
			for place, letter := range strings.ReplaceAll(r.Form, "?", "") {
				for _, w := range words {
					letters := "DNL"
					if len(k.rows) == 2 {
						letters = "D" + lasts[table:table+1]
					}
					body := bodyOf(table, letters)
					body[row] = ofForm(r.Tag, r.Form, true)
					body[row].Els[place].Parts = []string{w.word}
					want := impl.TableOut{At: int64(row), El: int64(place), Code: impl.ErrSyntax}
					if strings.ContainsRune(w.letters, letter) {
						want = impl.TableOut{}
					}
					same(t, k.name+" "+r.Tag+" "+w.word, impl.TableCheck(k.kind, body), want)
				}
			}
		}
	}
}

func TestElementsThatAreMissing(t *testing.T) {
	for table, k := range kinds {
		for row, r := range k.rows {
			least := strings.Index(r.Form+"?", "?")
			most := len(strings.ReplaceAll(r.Form, "?", ""))
			for count := range most + 2 {
				letters := "DNL"
				if len(k.rows) == 2 {
					letters = "D" + lasts[table:table+1]
				}
				body := bodyOf(table, letters)
				body[row] = ofForm(r.Tag, r.Form+"t", true)
				body[row].Els = body[row].Els[:count]
				want := impl.TableOut{At: int64(row), El: int64(min(count, most)), Code: impl.ErrSyntax}
				if count >= least && count <= most {
					want = impl.TableOut{}
				}
				same(t, k.name+" "+r.Tag+" of "+digits(count), impl.TableCheck(k.kind, body), want)
			}
		}
	}
}

func TestRowsThatAreFull(t *testing.T) {
	for table, k := range kinds {
		last := lasts[table : table+1]
		middles := []string{""}
		if len(k.rows) == 3 {
			middles = []string{"", "N", "NN", "NNN"}
		}
		for _, middle := range middles {
			for _, count := range []int{0, 1, 2, 19, 20, 21, 22, 40} {
				for _, behind := range []string{"", "D", "X", last, "D" + last} {
					letters := "D" + middle + strings.Repeat(last, count) + behind
					same(t, k.name+" "+letters, impl.TableCheck(k.kind, bodyOf(table, letters)), tagFault(table, letters))
				}
			}
		}
	}
}

func TestTableCheckNamesTheFirstFault(t *testing.T) {
	doc, lin, not := seg("DOC", "PO-1", "9"), seg("LIN", "1", "BOLT", "5"), seg("NOT", "soon")
	full := []impl.Segment{doc, not, not}
	for range 20 {
		full = append(full, lin)
	}
	for _, c := range []struct {
		what string
		kind int64
		body []impl.Segment
		want impl.TableOut
	}{
		{"empty", 1, nil, impl.TableOut{Code: impl.ErrShort}},
		{"head alone", 1, []impl.Segment{doc}, impl.TableOut{At: 1, Code: impl.ErrShort}},
		{"without head", 1, []impl.Segment{lin}, impl.TableOut{Code: impl.ErrShort}},
		{"head twice", 1, []impl.Segment{doc, doc, lin}, impl.TableOut{At: 1, Code: impl.ErrShort}},
		{"head behind", 1, []impl.Segment{lin, doc}, impl.TableOut{Code: impl.ErrShort}},
		{"three notes", 1, []impl.Segment{doc, not, not, not, lin}, impl.TableOut{At: 3, Code: impl.ErrShort}},
		{"note behind", 1, []impl.Segment{doc, lin, not}, impl.TableOut{At: 2, Code: impl.ErrSyntax}},
		{"note of a table without", 2, []impl.Segment{seg("DOC", "A", "B", "9"), not}, impl.TableOut{At: 1, Code: impl.ErrShort}},
		{"no element", 1, []impl.Segment{seg("DOC"), lin}, impl.TableOut{Code: impl.ErrSyntax}},
		{"form ahead of what is missing", 1, []impl.Segment{seg("DOC", "PO-1", "x")}, impl.TableOut{El: 1, Code: impl.ErrSyntax}},
		{"form of the second line", 1, []impl.Segment{doc, lin, seg("LIN", "2", "BOLT", "0"), lin}, impl.TableOut{At: 2, El: 2, Code: impl.ErrSyntax}},
		{"two faults of form", 1, []impl.Segment{doc, seg("LIN", "2", "b", "0"), seg("LIN")}, impl.TableOut{At: 1, El: 1, Code: impl.ErrSyntax}},
		{"full", 1, full, impl.TableOut{}},
		{"one too many", 1, append(slices.Clone(full), lin), impl.TableOut{At: 23, Code: impl.ErrMany}},
		{"one too many, of no form", 1, append(slices.Clone(full), seg("LIN")), impl.TableOut{At: 23, Code: impl.ErrMany}},
		{"another one, then one too many", 1, append(slices.Clone(full), doc, lin), impl.TableOut{At: 23, Code: impl.ErrSyntax}},
		{"no tag", 1, []impl.Segment{doc, lin, {}}, impl.TableOut{At: 2, Code: impl.ErrSyntax}},
		{"tags are whole", 1, []impl.Segment{seg("DOCS", "PO-1", "9"), lin}, impl.TableOut{Code: impl.ErrShort}},
		{"tags are of great letters", 1, []impl.Segment{doc, seg("lin", "1", "BOLT", "5")}, impl.TableOut{At: 1, Code: impl.ErrShort}},
		{"acknowledged twice", 7, []impl.Segment{doc, seg("ACK", "0", "0"), seg("ACK", "0", "0")}, impl.TableOut{At: 2, Code: impl.ErrMany}},
	} {
		same(t, c.what, impl.TableCheck(c.kind, c.body), c.want)
	}
}

func TestTableCheckRefusesFirstBySizeThenByKind(t *testing.T) {
	body := slices.Repeat([]impl.Segment{seg("DOC")}, impl.MaxList+1)
	for _, kind := range append([]int64{1, 7}, wrongKinds...) {
		same(t, "more", impl.TableCheck(kind, body), impl.TableOut{Code: impl.ErrSize})
	}
	for _, kind := range wrongKinds {
		same(t, "most", impl.TableCheck(kind, body[:impl.MaxList]), impl.TableOut{Code: impl.ErrForm})
		same(t, "empty", impl.TableCheck(kind, nil), impl.TableOut{Code: impl.ErrForm})
		same(t, "right", impl.TableCheck(kind, bodyOf(0, "DL")), impl.TableOut{Code: impl.ErrForm})
	}
	most := slices.Repeat([]impl.Segment{seg("LIN", "1", "BOLT", "5")}, impl.MaxList)
	most[0] = seg("DOC", "PO-1", "9")
	same(t, "most, of a kind", impl.TableCheck(1, most), impl.TableOut{At: 21, Code: impl.ErrMany})
}

// What a table takes are right segments, so that an envelope may carry them.
func TestWhatATableTakesAnEnvelopeCarries(t *testing.T) {
	for table, k := range kinds {
		for _, letters := range textsOf(lettersFor(table), 4) {
			body := bodyOf(table, letters)
			if impl.TableCheck(k.kind, body).Code != impl.OK {
				continue
			}
			same(t, "head", body[0].Tag, impl.TagOf(k.kind, 0))
			m := impl.Message{Number: 1, Body: body}
			same(t, k.name, impl.IxRight(interchange(impl.Bundle{Kind: k.kind, Number: 1, Messages: []impl.Message{m}})), true)
		}
	}
}

func TestTableCheckLeavesTheBodyAsItIs(t *testing.T) {
	body, kept := bodyOf(0, "DNLL"), bodyOf(0, "DNLL")
	impl.TableCheck(impl.KindOrder, body)
	impl.FormRight("nrq?n", body[2])
	same(t, "body", body, kept)
}
