package tests

import (
	"slices"
	"strconv"
	"strings"
	"testing"

	"loop.example/g00096/impl"
)

func digits(n int) string {
	return strconv.Itoa(n)
}

// message gives a Message whose body has so many segments.
func message(number int64, body int) impl.Message {
	m := impl.Message{Number: number}
	for i := range body {
		m.Body = append(m.Body, seg("DOC", "A|B", digits(i)))
	}
	return m
}

// bundle gives a Bundle with a Message for each of these bodies.
func bundle(kind int64, number int64, bodies ...int) impl.Bundle {
	b := impl.Bundle{Kind: kind, Number: number}
	for i, body := range bodies {
		b.Messages = append(b.Messages, message(int64(i)+1, body))
	}
	return b
}

func interchange(bundles ...impl.Bundle) impl.Interchange {
	return impl.Interchange{From: "ACME", To: "DOCK", Number: 7, Bundles: bundles}
}

// headAlone is what is told of an Interchange where the rest is refused.
func headAlone(x impl.Interchange, at int64, code int64) impl.IxOut {
	return impl.IxOut{Ix: impl.Interchange{From: x.From, To: x.To, Number: x.Number}, Head: true, At: at, Code: code}
}

// toldPlainly tells the segments of any Interchange, right or not, as chapter 4 lists them.
func toldPlainly(x impl.Interchange) []impl.Segment {
	list := []impl.Segment{seg("IXH", x.From, x.To, digits(int(x.Number)))}
	for _, b := range x.Bundles {
		list = append(list, seg("GRH", digits(int(b.Kind)), digits(int(b.Number))))
		for _, m := range b.Messages {
			list = append(list, seg("MSH", digits(int(m.Number))))
			list = append(list, m.Body...)
			list = append(list, seg("MST", digits(len(m.Body)), digits(int(m.Number))))
		}
		list = append(list, seg("GRT", digits(len(b.Messages)), digits(int(b.Number))))
	}
	return append(list, seg("IXT", digits(len(x.Bundles)), digits(int(x.Number))))
}

// sample has more than one of each envelope, no two with one number.
func sample() impl.Interchange {
	x := interchange(bundle(1, 11, 2, 0), bundle(7, 12, 1))
	x.Bundles[0].Messages[0].Number = 101
	x.Bundles[0].Messages[1].Number = 102
	x.Bundles[1].Messages[0].Number = 103
	return x
}

// rightOnes are right Interchanges with the edges of what is right, of at most MaxList segments.
func rightOnes() []impl.Interchange {
	least := impl.Interchange{From: "A", To: "A", Number: 1, Bundles: []impl.Bundle{{Kind: 1, Number: 1, Messages: []impl.Message{{Number: 1}}}}}
	most := interchange(impl.Bundle{Kind: 7, Number: impl.MaxNumber, Messages: []impl.Message{{Number: impl.MaxNumber, Body: rights()}}})
	most.From, most.To, most.Number = "ZZZZZZZZZZZ-", "A0123456789Z", impl.MaxNumber
	bundles := interchange()
	for i := range impl.MaxBundles {
		bundles.Bundles = append(bundles.Bundles, bundle(3, 5, repeatedInt(impl.MaxMessages, i)...))
	}
	all := []impl.Interchange{least, most, bundles, sample(), interchange(bundle(2, 1, impl.MaxBody)), listed(impl.MaxList)}
	for kind := range int64(7) {
		all = append(all, interchange(bundle(kind+1, 9, 1)))
	}
	return all
}

func repeatedInt(n int, body int) []int {
	var all []int
	for range n {
		all = append(all, body)
	}
	return all
}

// listed gives a right Interchange of just so many segments, from 364 to 424.
func listed(count int) impl.Interchange {
	bodies := repeatedInt(impl.MaxMessages, impl.MaxBody)
	rest := 4 + impl.MaxMessages*(impl.MaxBody+2) - count
	for i := 0; rest > 0; i++ {
		less := min(rest, impl.MaxBody)
		bodies[i] -= less
		rest -= less
	}
	return interchange(bundle(1, 1, bodies...))
}

var wrongNames = []string{"", "a", "1A", "-A", " A", "A ", "Ab", "A_", "A.B", "A@", "A[", "A/", "A:", "ABCDEFGHIJKLM", "Ä", "A\x00", "\xff", strings.Repeat("A", impl.MaxBytes+1)}

var wrongControls = []int64{0, -1, impl.MaxNumber + 1, 1 << 32, 1 << 62, -1 << 63}

// wrongOnes are Interchanges that are not right, each for one reason.
func wrongOnes() []impl.Interchange {
	var all []impl.Interchange
	add := func(change func(x *impl.Interchange)) {
		x := sample()
		change(&x)
		all = append(all, x)
	}
	for _, name := range wrongNames {
		add(func(x *impl.Interchange) { x.From = name })
		add(func(x *impl.Interchange) { x.To = name })
	}
	for _, number := range wrongControls {
		add(func(x *impl.Interchange) { x.Number = number })
		add(func(x *impl.Interchange) { x.Bundles[1].Number = number })
		add(func(x *impl.Interchange) { x.Bundles[0].Messages[1].Number = number })
	}
	for _, kind := range []int64{0, -1, 8, 1 << 32, -1 << 63} {
		add(func(x *impl.Interchange) { x.Bundles[1].Kind = kind })
	}
	for _, g := range append(wrongSegments(), envelopeTags()...) {
		add(func(x *impl.Interchange) { x.Bundles[1].Messages[0].Body[0] = g })
		add(func(x *impl.Interchange) { x.Bundles[0].Messages[0].Body[1] = g })
	}
	add(func(x *impl.Interchange) { x.Bundles = nil })
	add(func(x *impl.Interchange) { x.Bundles[1].Messages = nil })
	add(func(x *impl.Interchange) { x.Bundles[0].Messages = []impl.Message{} })
	add(func(x *impl.Interchange) {
		for len(x.Bundles) <= impl.MaxBundles {
			x.Bundles = append(x.Bundles, bundle(1, 1, 1))
		}
	})
	add(func(x *impl.Interchange) { x.Bundles[1] = bundle(1, 1, repeatedInt(impl.MaxMessages+1, 1)...) })
	add(func(x *impl.Interchange) { x.Bundles[0].Messages[1] = message(1, impl.MaxBody+1) })
	return append(all, impl.Interchange{})
}

// envelopeTags are right Segments that may not stand in a body.
func envelopeTags() []impl.Segment {
	return []impl.Segment{seg("IXH", "A", "A", "1"), seg("GRH", "1", "1"), seg("MSH", "1"), seg("MST"), seg("GRT", "X"), seg("IXT", "1|2")}
}

func TestIxRight(t *testing.T) {
	for i, x := range append(rightOnes(), listed(impl.MaxList+1)) {
		same(t, "right "+digits(i), impl.IxRight(x), true)
	}
	for i, x := range wrongOnes() {
		same(t, "wrong "+digits(i), impl.IxRight(x), false)
	}
	for b := range 256 {
		first := b >= 'A' && b <= 'Z'
		behind := first || b >= '0' && b <= '9' || b == '-'
		x := sample()
		x.From = string([]byte{byte(b), 'A'})
		same(t, x.From, impl.IxRight(x), first)
		x = sample()
		x.To = string([]byte{'A', byte(b)})
		same(t, x.To, impl.IxRight(x), behind)
	}
	x := sample()
	x.Bundles[1] = x.Bundles[0]
	same(t, "numbers may come twice", impl.IxRight(x), true)
}

func TestIxSegments(t *testing.T) {
	want := []impl.Segment{
		seg("IXH", "ACME", "DOCK", "7"),
		seg("GRH", "1", "11"), seg("MSH", "101"), seg("DOC", "A|B", "0"), seg("DOC", "A|B", "1"), seg("MST", "2", "101"), seg("MSH", "102"), seg("MST", "0", "102"), seg("GRT", "2", "11"),
		seg("GRH", "7", "12"), seg("MSH", "103"), seg("DOC", "A|B", "0"), seg("MST", "1", "103"), seg("GRT", "1", "12"),
		seg("IXT", "2", "7"),
	}
	same(t, "sample", impl.IxSegments(sample()), want)
	same(t, "count", impl.IxCount(sample()), int64(len(want)))
	for i, x := range wrongOnes() {
		same(t, "segments "+digits(i), len(impl.IxSegments(x)), 0)
		same(t, "count "+digits(i), impl.IxCount(x), int64(0))
	}
}

func TestTheLargestInterchangeIsTold(t *testing.T) {
	x := interchange()
	for range impl.MaxBundles {
		x.Bundles = append(x.Bundles, bundle(1, 1, repeatedInt(impl.MaxMessages, impl.MaxBody)...))
	}
	const count = 2 + impl.MaxBundles*(2+impl.MaxMessages*(2+impl.MaxBody))
	same(t, "count", impl.IxCount(x), int64(count))
	same(t, "segments", impl.IxSegments(x), toldPlainly(x))
}

// Promise 4, its first half.
func TestInterchangesComeBack(t *testing.T) {
	for i, x := range rightOnes() {
		list := impl.IxSegments(x)
		same(t, "told "+digits(i), list, toldPlainly(x))
		same(t, "count "+digits(i), impl.IxCount(x), int64(len(list)))
		same(t, "read "+digits(i), impl.IxRead(list), impl.IxOut{Ix: x, Head: true})
		same(t, "head "+digits(i), impl.HeadOf(list), headAlone(x, 0, impl.OK))
		for at := 1; at < len(list); at++ {
			same(t, "short "+digits(i), impl.IxRead(list[:at]), headAlone(x, int64(at), impl.ErrShort))
		}
		if len(list)+2 > impl.MaxList {
			continue
		}
		for _, g := range append(envelopeTags(), list[len(list)-1], seg("DOC"), impl.Segment{}) {
			same(t, "behind "+digits(i), impl.IxRead(append(slices.Clone(list), g, list[0])), headAlone(x, int64(len(list)), impl.ErrSyntax))
		}
	}
}

// follows says, Tag by Tag, what may stand right behind a segment.
var follows = map[string]string{"IXH": "GRH", "GRH": "MSH", "MSH": "DOC MST", "DOC": "DOC MST", "MST": "MSH GRT", "GRT": "GRH IXT"}

// opens says which head a trailer closes, and what is counted between them.
var opens = map[string][2]string{"MST": {"MSH", "DOC"}, "GRT": {"GRH", "MSH"}, "IXT": {"IXH", "GRH"}}

// stepCode tells the code of a right beginning with g behind it, by looking back from there.
func stepCode(list []impl.Segment, g impl.Segment) int64 {
	if !strings.Contains(follows[list[len(list)-1].Tag], g.Tag) {
		return impl.ErrSyntax
	}
	pair, trailer := opens[g.Tag]
	if !trailer {
		return impl.ErrShort
	}
	count, at := 0, len(list)-1
	for ; list[at].Tag != pair[0]; at-- {
		if list[at].Tag == pair[1] {
			count++
		}
	}
	opened := list[at].Els
	if g.Els[0].Parts[0] != digits(count) || g.Els[1].Parts[0] != opened[len(opened)-1].Parts[0] {
		return impl.ErrSum
	}
	if g.Tag == "IXT" {
		return impl.OK
	}
	return impl.ErrShort
}

// Promises 4 and 5, over every list of a few segments up to its first fault, and whatever stands behind that.
func TestEveryShortListIsReadOrRefused(t *testing.T) {
	letters := []impl.Segment{
		seg("IXH", "ACME", "DOCK", "7"), seg("GRH", "1", "2"), seg("GRH", "7", "3"), seg("MSH", "4"), seg("MSH", "5"), seg("DOC", "X"),
		seg("MST", "0", "4"), seg("MST", "1", "4"), seg("MST", "0", "5"), seg("MST", "2", "5"), seg("GRT", "0", "2"), seg("GRT", "1", "2"), seg("GRT", "1", "3"), seg("GRT", "2", "2"),
		seg("IXT", "0", "7"), seg("IXT", "1", "7"), seg("IXT", "2", "7"), seg("IXT", "1", "2"),
	}
	counts := map[int64]int{}
	open := [][]impl.Segment{letters[:1]}
	for size := int64(1); size <= 11; size++ {
		var longer [][]impl.Segment
		for _, list := range open {
			for _, g := range letters {
				next := append(slices.Clone(list), g)
				code := stepCode(list, g)
				checkStep(t, next, size, code)
				counts[code]++
				if code == impl.ErrShort {
					longer = append(longer, next)
				}
			}
		}
		open = longer
	}
	for _, code := range []int64{impl.OK, impl.ErrSyntax, impl.ErrSum, impl.ErrShort} {
		if counts[code] < 50 {
			t.Errorf("code %d came %d times only", code, counts[code])
		}
	}
}

func checkStep(t *testing.T, list []impl.Segment, size int64, code int64) {
	t.Helper()
	got := impl.IxRead(list)
	head := headAlone(interchange(), 0, 0)
	switch code {
	case impl.OK:
		same(t, "taken", [2]int64{got.Code, got.At}, [2]int64{})
		same(t, "told", impl.IxSegments(got.Ix), list)
		behind := headAlone(interchange(), size+1, impl.ErrSyntax)
		same(t, "behind", impl.IxRead(append(list, list[size])), behind)
	case impl.ErrShort:
		head.At, head.Code = size+1, code
		same(t, "short", got, head)
	default:
		head.At, head.Code = size, code
		same(t, "refused", got, head)
		same(t, "whatever stands behind", impl.IxRead(append(list, list[size], impl.Segment{}, list[0])), head)
	}
}

// places gives the places of the segments of that Tag.
func places(list []impl.Segment, tag string) []int {
	var all []int
	for at, g := range list {
		if g.Tag == tag {
			all = append(all, at)
		}
	}
	return all
}

var noNumbers = []string{"", " ", "-", "00", "01", "-0", "-01", "+1", "--1", "1-", " 1", "1 ", "1.0", "1e1", "0x1", "1_0", "A", "1A", "\x00", "٣"}

// Promise 5: in each trailer, each of both numbers.
func TestOtherNumbersOfTrailersAreRefusedThere(t *testing.T) {
	others := []string{"0", "-1", "3", "9", "1000000", "9223372036854775807", "9223372036854775808", "-9223372036854775808", "18446744073709551617", strings.Repeat("9", impl.MaxPart), "1" + strings.Repeat("0", 60)}
	x := sample()
	for _, tag := range []string{"MST", "GRT", "IXT"} {
		for _, at := range places(toldPlainly(x), tag) {
			for el := range 2 {
				for _, other := range others {
					list := toldPlainly(x)
					if other == list[at].Els[el].Parts[0] {
						continue
					}
					list[at].Els[el].Parts[0] = other
					want := headAlone(x, int64(at), impl.ErrSum)
					same(t, tag+" "+other, impl.IxRead(list), want)
					same(t, tag+" at the end", impl.IxRead(list[:at+1]), want)
					same(t, "head", impl.HeadOf(list), headAlone(x, 0, impl.OK))
				}
			}
		}
	}
}

// A count that would be right modulo 2^64, and two trailers that are another one's.
func TestTrailersOfOthers(t *testing.T) {
	x := sample()
	list := toldPlainly(x)
	list[5].Els[0].Parts[0] = "18446744073709551618"
	same(t, "wrapped", impl.IxRead(list), headAlone(x, 5, impl.ErrSum))
	list = toldPlainly(x)
	list[5], list[7] = list[7], list[5]
	same(t, "swapped", impl.IxRead(list), headAlone(x, 5, impl.ErrSum))
	list = toldPlainly(x)
	list[8], list[13] = list[13], list[8]
	same(t, "swapped", impl.IxRead(list), headAlone(x, 8, impl.ErrSum))
	list = toldPlainly(x)
	same(t, "one segment less", impl.IxRead(slices.Delete(list, 3, 4)), headAlone(x, 4, impl.ErrSum))
}

func TestTrailersThatTellNoNumbers(t *testing.T) {
	x := sample()
	for _, tag := range []string{"MST", "GRT", "IXT"} {
		for _, at := range places(toldPlainly(x), tag) {
			check := func(els []impl.Element) {
				t.Helper()
				list := toldPlainly(x)
				list[at].Els = els
				same(t, tag, impl.IxRead(list), headAlone(x, int64(at), impl.ErrSyntax))
			}
			for _, text := range noNumbers {
				check([]impl.Element{{Parts: []string{text}}, {Parts: []string{"1"}}})
				check([]impl.Element{{Parts: []string{"99"}}, {Parts: []string{text}}})
			}
			ends := toldPlainly(x)[at].Els
			check(nil)
			check(ends[:1])
			check(append(slices.Clone(ends), ends[1]))
			check([]impl.Element{ends[0], {Parts: []string{"1", "2"}}})
			check([]impl.Element{{Parts: []string{ends[0].Parts[0], ""}}, ends[1]})
			check([]impl.Element{ends[0], {}})
		}
	}
}

// badNumbers tell no control number.
var badNumbers = append([]string{"0", "-1", "1000000", "9223372036854775808", "18446744073709551617"}, noNumbers...)

// wrongHeads are segments that are no head of any Interchange.
func wrongHeads() []impl.Segment {
	one := []string{"ACME", "DOCK", "7"}
	all := []impl.Segment{{}, seg("IXH"), seg("IXH", one[:2]...), seg("IXH", append(slices.Clone(one), "1")...), seg("IXT", one...), seg("ixh", one...), seg("IXHH", one...), seg("IX", one...)}
	for _, name := range wrongNames {
		all = append(all, seg("IXH", name, "DOCK", "7"), seg("IXH", "ACME", name, "7"))
	}
	for _, number := range badNumbers {
		all = append(all, seg("IXH", "ACME", "DOCK", number))
	}
	for el := range 3 {
		for _, parts := range [][]string{nil, {one[el], ""}, {one[el], one[el]}} {
			g := seg("IXH", one...)
			g.Els[el].Parts = parts
			all = append(all, g)
		}
	}
	return all
}

func TestHeadOf(t *testing.T) {
	none := impl.IxOut{Code: impl.ErrNone}
	for _, list := range [][]impl.Segment{nil, {}} {
		same(t, "head of none", impl.HeadOf(list), none)
		same(t, "none", impl.IxRead(list), none)
	}
	for _, x := range rightOnes() {
		same(t, "alone", impl.HeadOf(toldPlainly(x)[:1]), headAlone(x, 0, impl.OK))
		same(t, "whatever stands behind", impl.HeadOf([]impl.Segment{toldPlainly(x)[0], {}, seg("abc")}), headAlone(x, 0, impl.OK))
	}
	for _, g := range wrongHeads() {
		list := toldPlainly(sample())
		list[0] = g
		same(t, "head", impl.HeadOf(list), impl.IxOut{Code: impl.ErrSyntax})
		same(t, "alone", impl.HeadOf(list[:1]), impl.IxOut{Code: impl.ErrSyntax})
		same(t, "read", impl.IxRead(list), impl.IxOut{Code: impl.ErrSyntax})
		same(t, "read alone", impl.IxRead(list[:1]), impl.IxOut{Code: impl.ErrSyntax})
	}
}

func TestInnerHeadsAreJustAsTheyAreTold(t *testing.T) {
	x := sample()
	check := func(at int, g impl.Segment) {
		t.Helper()
		list := toldPlainly(x)
		list[at] = g
		same(t, g.Tag, impl.IxRead(list), headAlone(x, int64(at), impl.ErrSyntax))
		same(t, g.Tag, impl.IxRead(list[:at+1]), headAlone(x, int64(at), impl.ErrSyntax))
	}
	for _, at := range places(toldPlainly(x), "GRH") {
		for _, text := range badNumbers {
			check(at, seg("GRH", text, "1"))
			check(at, seg("GRH", "1", text))
		}
		for _, g := range []impl.Segment{{}, seg("GRH"), seg("GRH", "1"), seg("GRH", "1", "1", "1"), seg("GRH", "8", "1"), seg("GRH", "1|1", "1"), seg("GRH", "1", "1|1"), seg("grh", "1", "1")} {
			check(at, g)
		}
	}
	for _, at := range places(toldPlainly(x), "MSH") {
		for _, text := range badNumbers {
			check(at, seg("MSH", text))
		}
		for _, g := range []impl.Segment{{}, seg("MSH"), seg("MSH", "1", "1"), seg("MSH", "1|1"), seg("MSH", "1|"), {Tag: "MSH", Els: []impl.Element{{}}}, seg("DOC", "1")} {
			check(at, g)
		}
	}
}

func TestSegmentsOfABodyMustBeRight(t *testing.T) {
	x := sample()
	for _, g := range append(wrongSegments(), seg("IXH", "ACME", "DOCK", "7"), seg("GRH", "1", "1"), seg("MSH", "1"), seg("GRT", "1", "11"), seg("IXT", "1", "7")) {
		for _, at := range places(toldPlainly(x), "DOC") {
			list := toldPlainly(x)
			list[at] = g
			same(t, g.Tag, impl.IxRead(list), headAlone(x, int64(at), impl.ErrSyntax))
		}
	}
}

func TestOneTooMany(t *testing.T) {
	x := interchange()
	for range impl.MaxBundles + 1 {
		x.Bundles = append(x.Bundles, bundle(1, 1, 0))
	}
	same(t, "bundles", impl.IxRead(toldPlainly(x)), headAlone(x, 1+4*impl.MaxBundles, impl.ErrSyntax))
	x = interchange(bundle(1, 1, repeatedInt(impl.MaxMessages+1, 0)...))
	same(t, "messages", impl.IxRead(toldPlainly(x)), headAlone(x, 2+2*impl.MaxMessages, impl.ErrSyntax))
	x = interchange(bundle(1, 1, impl.MaxBody+1))
	same(t, "body", impl.IxRead(toldPlainly(x)), headAlone(x, 3+impl.MaxBody, impl.ErrSyntax))
	// Where none may be missing, the trailer can't stand yet, whatever it tells.
	same(t, "no bundles", impl.IxRead(toldPlainly(interchange())), headAlone(interchange(), 1, impl.ErrSyntax))
	x = interchange(bundle(1, 1))
	same(t, "no messages", impl.IxRead(toldPlainly(x)), headAlone(x, 2, impl.ErrSyntax))
	list := []impl.Segment{seg("IXH", "ACME", "DOCK", "7"), seg("IXT", "9", "9")}
	same(t, "no bundles, and another count", impl.IxRead(list), headAlone(x, 1, impl.ErrSyntax))
}

func TestListsThatAreTooLong(t *testing.T) {
	over := listed(impl.MaxList + 1)
	list := impl.IxSegments(over)
	size := impl.IxOut{Code: impl.ErrSize}
	same(t, "told", len(list), impl.MaxList+1)
	same(t, "read", impl.IxRead(list), size)
	same(t, "head", impl.HeadOf(list), size)
	same(t, "zero segments", impl.IxRead(make([]impl.Segment, impl.MaxList+1)), size)
	same(t, "largest", impl.IxRead(list[:impl.MaxList]), headAlone(over, impl.MaxList, impl.ErrShort))
	same(t, "largest, and none", impl.IxRead(make([]impl.Segment, impl.MaxList)), impl.IxOut{Code: impl.ErrSyntax})
	same(t, "head of the largest", impl.HeadOf(list[:impl.MaxList]), headAlone(over, 0, impl.OK))
}

// spoil changes all that can be reached from those segments.
func spoil(list []impl.Segment) {
	for i, g := range list {
		for _, e := range g.Els {
			for k := range e.Parts {
				e.Parts[k] = "spoilt"
			}
			_ = append(e.Parts, "spoilt")
		}
		_ = append(g.Els, impl.Element{})
		list[i].Tag = "BAD"
	}
}

func TestInterchangesAreNewMemory(t *testing.T) {
	x := sample()
	list := impl.IxSegments(x)
	spoil(list)
	same(t, "told from", x, sample())
	list = toldPlainly(sample())
	out := impl.IxRead(list)
	same(t, "not changed", list, toldPlainly(sample()))
	spoil(list)
	same(t, "read", out.Ix, sample())
	spoil(out.Ix.Bundles[0].Messages[0].Body[:1])
	same(t, "beside", out.Ix.Bundles[0].Messages[0].Body[1], sample().Bundles[0].Messages[0].Body[1])
	_ = append(out.Ix.Bundles[0].Messages[:1], impl.Message{})
	same(t, "other bundle", out.Ix.Bundles[1], sample().Bundles[1])
	list = toldPlainly(sample())
	for _, o := range []impl.IxOut{impl.IxRead(list), impl.HeadOf(list)} {
		same(t, "from", within(o.Ix.From, list[0].Els[0].Parts[0]), false)
		same(t, "to", within(o.Ix.To, list[0].Els[1].Parts[0]), false)
	}
	same(t, "part", within(impl.IxRead(list).Ix.Bundles[0].Messages[0].Body[0].Els[0].Parts[0], list[3].Els[0].Parts[0]), false)
	same(t, "tag", within(impl.IxRead(list).Ix.Bundles[0].Messages[0].Body[0].Tag, list[3].Tag), false)
	told := impl.IxSegments(x)
	same(t, "told name", within(told[0].Els[0].Parts[0], x.From), false)
	same(t, "told part", within(told[3].Els[0].Parts[1], x.Bundles[0].Messages[0].Body[0].Els[0].Parts[1]), false)
}
