package impl

import (
	"iter"
	"slices"
)

// Constants, see chapter 1.
const (
	OK         = 0
	ErrForm    = 1
	ErrSize    = 2
	ErrSyntax  = 3
	ErrShort   = 4
	ErrSum     = 5
	ErrNone    = 6
	ErrMany    = 7
	ErrStale   = 8
	ErrPartner = 9
	ErrItem    = 10
	ErrThere   = 11
	ErrFull    = 12
	ErrState   = 13
	MaxBytes   = 20000
	MaxList    = 400
	MaxNumber  = 999999
	MaxQty     = 1000000
	MaxStock   = 1000000000
	MaxDay     = 100000
)

// Syntax is a thing of chapter 2.
type Syntax struct {
	Seg  int64
	El   int64
	Comp int64
	Rel  int64
}

// TextOut is a thing of chapter 2.
type TextOut struct {
	Text string
	At   int64
	Code int64
}

// SyntaxOut is a thing of chapter 2.
type SyntaxOut struct {
	S    Syntax
	Used int64
	Code int64
}

// The text of a Syntax: this word, and a byte for each of its fields.
const (
	syntaxWord = "SYN"
	syntaxSize = 7
)

// SyntaxRight: see chapter 2.
func SyntaxRight(s Syntax) bool {
	fields := [4]int64{s.Seg, s.El, s.Comp, s.Rel}
	for i, field := range fields {
		if !mayMark(field) || slices.Contains(fields[:i], field) {
			return false
		}
	}
	return true
}

// mayMark refuses what names, numbers and tags are made of: they never need a release.
func mayMark(b int64) bool {
	switch {
	case b < 33, b > 126, b == '-':
		return false
	case b >= '0' && b <= '9', b >= 'A' && b <= 'Z', b >= 'a' && b <= 'z':
		return false
	}
	return true
}

// isMark: is b one of the four bytes that s names?
func isMark(s Syntax, b byte) bool {
	switch int64(b) {
	case s.Seg, s.El, s.Comp, s.Rel:
		return true
	}
	return false
}

// scan tells each byte of the text with whether it is released. A Rel releases whatever stands behind
// it, also what needs no release, so that cutting never hangs on whether the text could be unescaped.
func scan(s Syntax, text string) iter.Seq2[byte, bool] {
	return func(yield func(byte, bool) bool) {
		released := false
		for at := range len(text) {
			b := text[at]
			if !yield(b, released) {
				return
			}
			released = !released && int64(b) == s.Rel
		}
	}
}

// Escape: see chapter 2.
func Escape(s Syntax, text string) string {
	if len(text) > MaxBytes || !SyntaxRight(s) {
		return ""
	}
	var escaped []byte
	for b := range scan(s, text) {
		if isMark(s, b) {
			escaped = append(escaped, byte(s.Rel))
		}
		escaped = append(escaped, b)
	}
	return string(escaped)
}

// Unescape: see chapter 2.
func Unescape(s Syntax, text string) TextOut {
	if len(text) > MaxBytes {
		return TextOut{Code: ErrSize}
	}
	if !SyntaxRight(s) {
		return TextOut{Code: ErrForm}
	}
	plain, fault := withoutReleases(s, text)
	if fault >= 0 {
		return TextOut{At: fault, Code: ErrSyntax}
	}
	return TextOut{Text: plain}
}

// withoutReleases also tells the place of the first fault, or -1. Whether a Rel is one is known only
// at the byte behind it, or at the text's end.
func withoutReleases(s Syntax, text string) (string, int64) {
	var plain []byte
	at, fault, waiting := int64(0), int64(-1), false
walk:
	for b, released := range scan(s, text) {
		waiting = !released && int64(b) == s.Rel
		switch {
		case waiting:
		case released && !isMark(s, b):
			fault = at - 1
			break walk
		case !released && isMark(s, b):
			fault = at
			break walk
		default:
			plain = append(plain, b)
		}
		at++
	}
	if waiting {
		fault = at - 1
	}
	return string(plain), fault
}

// CutAt: see chapter 2.
func CutAt(s Syntax, text string, by int64) []string {
	if len(text) > MaxBytes || !SyntaxRight(s) || !mayCut(s, by) {
		return nil
	}
	// Pieces are put together byte by byte: a slice of text would share its memory.
	var pieces []string
	var piece []byte
	for b, released := range scan(s, text) {
		if !released && int64(b) == by {
			pieces = append(pieces, string(piece))
			piece = piece[:0]
			continue
		}
		piece = append(piece, b)
	}
	return append(pieces, string(piece))
}

// mayCut: a Rel cuts nothing.
func mayCut(s Syntax, by int64) bool {
	return by == s.Seg || by == s.El || by == s.Comp
}

// SyntaxText: see chapter 2.
func SyntaxText(s Syntax) string {
	if !SyntaxRight(s) {
		return ""
	}
	return syntaxWord + string([]byte{byte(s.Seg), byte(s.El), byte(s.Comp), byte(s.Rel)})
}

// SyntaxRead: see chapter 2.
func SyntaxRead(text string) SyntaxOut {
	if len(text) > MaxBytes {
		return SyntaxOut{Code: ErrSize}
	}
	known := min(len(text), len(syntaxWord))
	if text[:known] != syntaxWord[:known] {
		return SyntaxOut{Code: ErrSyntax}
	}
	if len(text) < syntaxSize {
		return SyntaxOut{Code: ErrShort}
	}
	marks := text[len(syntaxWord):syntaxSize]
	s := Syntax{Seg: int64(marks[0]), El: int64(marks[1]), Comp: int64(marks[2]), Rel: int64(marks[3])}
	if !SyntaxRight(s) {
		return SyntaxOut{Code: ErrSyntax}
	}
	return SyntaxOut{S: s, Used: syntaxSize}
}
