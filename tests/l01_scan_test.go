package tests

import (
	"fmt"
	"reflect"
	"strings"
	"testing"
	"unsafe"

	"loop.example/g00096/impl"
)

// usual is the Syntax of the document's own examples.
var usual = impl.Syntax{Seg: '\'', El: '+', Comp: ':', Rel: '?'}

// wrongs are Syntaxes that are not right, one for each reason.
var wrongs = []impl.Syntax{
	{},
	{Seg: 32, El: '+', Comp: ':', Rel: '?'},
	{Seg: '\'', El: 127, Comp: ':', Rel: '?'},
	{Seg: '\'', El: '+', Comp: 'A', Rel: '?'},
	{Seg: '\'', El: '+', Comp: ':', Rel: 'z'},
	{Seg: '7', El: '+', Comp: ':', Rel: '?'},
	{Seg: '\'', El: '-', Comp: ':', Rel: '?'},
	{Seg: '+', El: '+', Comp: ':', Rel: '?'},
	{Seg: '?', El: '+', Comp: ':', Rel: '?'},
	{Seg: '\'' + 256, El: '+', Comp: ':', Rel: '?'},
	{Seg: '\'', El: '+', Comp: ':', Rel: '?' - 256},
}

// textsOf gives every text of at most most bytes over those of letters.
func textsOf(letters string, most int) []string {
	all := []string{""}
	for from, n := 0, 0; n < most; n++ {
		end := len(all)
		for _, text := range all[from:end] {
			for i := range len(letters) {
				all = append(all, text+letters[i:i+1])
			}
		}
		from = end
	}
	return all
}

func same(t *testing.T, what string, got any, want any) {
	t.Helper()
	if !reflect.DeepEqual(got, want) {
		t.Errorf("%s: got %+v, want %+v", what, got, want)
	}
}

// short tells a thing in so few words that a fault can be read.
func short(thing any) string {
	text := fmt.Sprintf("%+v", thing)
	return text[:min(len(text), 600)]
}

// plainMark says, byte by byte as chapter 2 lists them, what may stand in a Syntax.
func plainMark(b int64) bool {
	return b > 0 && b < 128 && strings.IndexByte("!\"#$%&'()*+,./:;<=>?@[\\]^_`{|}~", byte(b)) >= 0
}

func TestSyntaxRight(t *testing.T) {
	same(t, "usual", impl.SyntaxRight(usual), true)
	for _, s := range wrongs {
		same(t, "wrong", impl.SyntaxRight(s), false)
	}
	for b := int64(-600); b <= 600; b++ {
		free := plainMark(b) && b != '<' && b != '>' && b != '@'
		same(t, "Seg", impl.SyntaxRight(impl.Syntax{Seg: b, El: '<', Comp: '>', Rel: '@'}), free)
		same(t, "El", impl.SyntaxRight(impl.Syntax{Seg: '<', El: b, Comp: '>', Rel: '@'}), free)
		same(t, "Comp", impl.SyntaxRight(impl.Syntax{Seg: '<', El: '>', Comp: b, Rel: '@'}), free)
		same(t, "Rel", impl.SyntaxRight(impl.Syntax{Seg: '<', El: '>', Comp: '@', Rel: b}), free)
	}
}

func TestEscape(t *testing.T) {
	same(t, "empty", impl.Escape(usual, ""), "")
	same(t, "plain", impl.Escape(usual, "Ab-9 \x00\xff"), "Ab-9 \x00\xff")
	same(t, "all four", impl.Escape(usual, "'+:?"), "?'?+?:??")
	same(t, "escaped again", impl.Escape(usual, "?+"), "???+")
	same(t, "largest", impl.Escape(usual, strings.Repeat("+", impl.MaxBytes)), strings.Repeat("?+", impl.MaxBytes))
	same(t, "too large", impl.Escape(usual, strings.Repeat("a", impl.MaxBytes+1)), "")
	for _, s := range wrongs {
		same(t, "wrong syntax", impl.Escape(s, "abc"), "")
	}
}

func TestUnescapeFaults(t *testing.T) {
	cases := []struct {
		text string
		at   int64
	}{
		{"'", 0}, {"+", 0}, {":", 0}, {"?", 0}, {"?a", 0}, {"???", 2}, {"???a", 2}, {"??+", 2},
		{"a?+b:c'", 4}, {"a'b?", 1}, {"a?b'", 1}, {"?+?", 2}, {"? +", 0}, {"?\xff", 0},
	}
	for _, c := range cases {
		same(t, c.text, impl.Unescape(usual, c.text), impl.TextOut{At: c.at, Code: impl.ErrSyntax})
	}
}

func TestUnescapeRefusesFirstBySizeThenByForm(t *testing.T) {
	large := strings.Repeat("a", impl.MaxBytes)
	same(t, "largest", impl.Unescape(usual, large), impl.TextOut{Text: large})
	same(t, "last byte", impl.Unescape(usual, large[1:]+"?"), impl.TextOut{At: impl.MaxBytes - 1, Code: impl.ErrSyntax})
	same(t, "too large", impl.Unescape(usual, large+"a"), impl.TextOut{Code: impl.ErrSize})
	for _, s := range wrongs {
		same(t, "both", impl.Unescape(s, large+"?"), impl.TextOut{Code: impl.ErrSize})
		same(t, "form", impl.Unescape(s, "a?"), impl.TextOut{Code: impl.ErrForm})
	}
}

// Promise 1, its first half, and that nothing but an escaped text is taken.
func TestEscapedTextComesBack(t *testing.T) {
	taken := map[string]string{}
	for _, text := range textsOf("'+:?a", 5) {
		escaped := impl.Escape(usual, text)
		same(t, text, impl.Unescape(usual, escaped), impl.TextOut{Text: text})
		taken[escaped] = text
	}
	for _, text := range textsOf("'+:?a", 5) {
		out := impl.Unescape(usual, text)
		if _, ok := taken[text]; ok != (out.Code == impl.OK) {
			t.Errorf("%q: taken %v, answered %+v", text, ok, out)
		}
		if out.Code != impl.OK && (out.Code != impl.ErrSyntax || out.Text != "") {
			t.Errorf("%q: answered %+v", text, out)
		}
	}
}

// A fault is at the first byte at which what stands ahead of it can still be unescaped, and it can't.
func TestUnescapeNamesTheFirstFault(t *testing.T) {
	for _, text := range textsOf("'+:?a", 5) {
		out := impl.Unescape(usual, text)
		if out.Code == impl.OK {
			continue
		}
		same(t, text, impl.Unescape(usual, text[:out.At]).Code, int64(impl.OK))
		next := text[out.At:min(int(out.At)+2, len(text))]
		if next[0] == 'a' || len(next) == 2 && next[0] == '?' && next[1] != 'a' {
			t.Errorf("%q: no fault at %d", text, out.At)
		}
	}
}

func TestEveryByteComesBack(t *testing.T) {
	var all []byte
	for b := range 256 {
		all = append(all, byte(b))
	}
	for _, s := range []impl.Syntax{usual, {Seg: '~', El: '*', Comp: '>', Rel: '\\'}, {Seg: '!', El: '"', Comp: '#', Rel: '$'}} {
		escaped := impl.Escape(s, string(all))
		same(t, "length", len(escaped), 260)
		same(t, "back", impl.Unescape(s, escaped), impl.TextOut{Text: string(all)})
	}
}

func TestCutAt(t *testing.T) {
	cases := []struct {
		text string
		by   int64
		want []string
	}{
		{"", '+', []string{""}},
		{"+", '+', []string{"", ""}},
		{"a+b:c'd", '+', []string{"a", "b:c'd"}},
		{"a+b:c'd", ':', []string{"a+b", "c'd"}},
		{"a+b:c'd", '\'', []string{"a+b:c", "d"}},
		{"?+", '+', []string{"?+"}},
		{"??+", '+', []string{"??", ""}},
		{"???+", '+', []string{"???+"}},
		{"a?b+c?", '+', []string{"a?b", "c?"}},
		{"?a?+", '+', []string{"?a?+"}},
	}
	for _, c := range cases {
		same(t, c.text, impl.CutAt(usual, c.text, c.by), c.want)
	}
}

func TestCutAtRefuses(t *testing.T) {
	for _, by := range []int64{'?', 'a', 0, -1, '+' + 256, '+' - 256, '+' + 1<<32} {
		same(t, "by", len(impl.CutAt(usual, "a+b?c", by)), 0)
	}
	for _, s := range wrongs {
		same(t, "wrong syntax", len(impl.CutAt(s, "a+b", s.Comp)), 0)
	}
	large := strings.Repeat("+", impl.MaxBytes)
	same(t, "largest", len(impl.CutAt(usual, large, '+')), impl.MaxBytes+1)
	same(t, "too large", len(impl.CutAt(usual, large+"+", '+')), 0)
}

// Promise 1, its second half: whichever mark stands between, and whatever the texts hold.
func TestOnlyMarksBetweenEscapedTextsCut(t *testing.T) {
	texts := textsOf("'+:?a", 2)
	for _, by := range []string{"'", "+", ":"} {
		mark := int64(by[0])
		for _, first := range texts {
			for _, second := range texts {
				pieces := []string{impl.Escape(usual, first), impl.Escape(usual, second), impl.Escape(usual, first+second)}
				same(t, "pieces", impl.CutAt(usual, strings.Join(pieces, by), mark), pieces)
				same(t, "one", impl.CutAt(usual, pieces[2], mark), pieces[2:])
			}
		}
	}
}

// Whatever is cut, its pieces with the mark between are the text again, and hold no such mark themselves.
func TestPiecesAreTheText(t *testing.T) {
	for _, text := range textsOf("'+:?a", 5) {
		for _, by := range []string{"'", "+", ":"} {
			pieces := impl.CutAt(usual, text, int64(by[0]))
			same(t, text, strings.Join(pieces, by), text)
			for i, piece := range pieces {
				bare := strings.ReplaceAll(piece, "??", "")
				same(t, text, strings.Contains(strings.ReplaceAll(bare, "?"+by, ""), by), false)
				if i < len(pieces)-1 && strings.Count(piece, "?") == 1 {
					same(t, text, strings.HasSuffix(piece, "?"), false)
				}
			}
		}
	}
}

func TestPiecesAreNewMemory(t *testing.T) {
	text := strings.Repeat("abc", 30)
	from := uintptr(unsafe.Pointer(unsafe.StringData(text)))
	for _, piece := range append(impl.CutAt(usual, text, '+'), impl.Escape(usual, text), impl.Unescape(usual, text).Text) {
		at := uintptr(unsafe.Pointer(unsafe.StringData(piece)))
		if at >= from && at < from+uintptr(len(text)) {
			t.Errorf("%q shares memory with what was handed in", piece)
		}
	}
}

// Promise 2, over every four bytes that may be marks, right together or not.
func TestSyntaxComesBack(t *testing.T) {
	var marks []int64
	for b := int64(0); b < 256; b++ {
		if plainMark(b) {
			marks = append(marks, b)
		}
	}
	for _, seg := range marks {
		for _, el := range marks {
			for _, comp := range marks {
				for _, rel := range marks {
					checkSyntax(t, impl.Syntax{Seg: seg, El: el, Comp: comp, Rel: rel})
				}
			}
		}
	}
}

func checkSyntax(t *testing.T, s impl.Syntax) {
	t.Helper()
	alike := s.Seg == s.El || s.Seg == s.Comp || s.Seg == s.Rel || s.El == s.Comp || s.El == s.Rel || s.Comp == s.Rel
	told := "SYN" + string([]byte{byte(s.Seg), byte(s.El), byte(s.Comp), byte(s.Rel)})
	text, read := told, impl.SyntaxOut{S: s, Used: 7}
	if alike {
		text, read = "", impl.SyntaxOut{Code: impl.ErrSyntax}
	}
	if impl.SyntaxRight(s) == alike || impl.SyntaxText(s) != text || impl.SyntaxRead(told) != read {
		t.Errorf("%+v: got %q, %+v", s, impl.SyntaxText(s), impl.SyntaxRead(told))
	}
}

func TestSyntaxTextOfWrongOnes(t *testing.T) {
	for _, s := range wrongs {
		same(t, "wrong syntax", impl.SyntaxText(s), "")
	}
}

func TestSyntaxRead(t *testing.T) {
	cases := []struct {
		text string
		code int64
	}{
		{"", impl.ErrShort}, {"S", impl.ErrShort}, {"SY", impl.ErrShort}, {"SYN", impl.ErrShort},
		{"SYN'+:", impl.ErrShort}, {"SYN''", impl.ErrShort}, {"SYNABC", impl.ErrShort},
		{"X", impl.ErrSyntax}, {"SX", impl.ErrSyntax}, {"SYn", impl.ErrSyntax}, {"SYM'+:", impl.ErrSyntax}, {" SYN'+:?", impl.ErrSyntax},
		{"syn'+:?", impl.ErrSyntax}, {"SYN'+:A", impl.ErrSyntax}, {"SYN'+: ", impl.ErrSyntax}, {"SYN-+:?", impl.ErrSyntax},
		{"SYN'+:\x7f", impl.ErrSyntax}, {"SYN'+:\xbf", impl.ErrSyntax}, {"SYN'+:'", impl.ErrSyntax}, {"SYN?+:?UNH", impl.ErrSyntax},
	}
	for _, c := range cases {
		same(t, c.text, impl.SyntaxRead(c.text), impl.SyntaxOut{Code: c.code})
	}
}

func TestSyntaxReadLooksOnlyAtTheBeginning(t *testing.T) {
	want := impl.SyntaxOut{S: usual, Used: 7}
	same(t, "alone", impl.SyntaxRead("SYN'+:?"), want)
	same(t, "more", impl.SyntaxRead("SYN'+:?SYN'+:?\xff"), want)
	large := "SYN'+:?" + strings.Repeat("a", impl.MaxBytes-7)
	same(t, "largest", impl.SyntaxRead(large), want)
	same(t, "too large", impl.SyntaxRead(large+"a"), impl.SyntaxOut{Code: impl.ErrSize})
	same(t, "too large, and none", impl.SyntaxRead("x"+large), impl.SyntaxOut{Code: impl.ErrSize})
}
