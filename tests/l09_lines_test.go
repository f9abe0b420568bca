package tests

import (
	"math"
	"math/big"
	"slices"
	"strings"
	"testing"

	"loop.example/g00096/impl"
)

// orderLine gives a line of ten pieces, nothing of which came so far.
func orderLine(partner string, ref string, no int64) impl.OrderLine {
	return impl.OrderLine{Partner: partner, Ref: ref, No: no, Item: "BOLT", Ordered: 10}
}

// counts gives a line of these four numbers.
func counts(ordered int64, sent int64, got int64, cut int64) impl.OrderLine {
	return impl.OrderLine{Partner: "ACME", Ref: "PO-1", No: 7, Item: "BOLT", Ordered: ordered, Sent: sent, Got: got, Cut: cut}
}

// manyLines gives n of them, rising, of three Partners, with Refs of up to nine lines each.
func manyLines(n int) []impl.OrderLine {
	var all []impl.OrderLine
	for at := range n {
		partner := []string{"ACME", "C-1", "DOCK"}[at*3/n]
		l := orderLine(partner, "R"+number(int64(1000+at/9)), int64(8+at%9))
		l.Sent = int64(at % 11)
		all = append(all, l)
	}
	return all
}

// lineKeys gives lines of the Partners, Refs and Nos that are named, in this order.
func lineKeys(list ...string) []impl.OrderLine {
	var all []impl.OrderLine
	for _, text := range list {
		words := strings.Split(text, " ")
		all = append(all, orderLine(words[0], words[1], numberRead(words[2])))
	}
	return all
}

// orderLinePlainly holds a line to what chapter 10 says of a right one; sums are those of whole numbers
// of any size.
func orderLinePlainly(l impl.OrderLine) bool {
	gone := new(big.Int).Add(big.NewInt(l.Sent), big.NewInt(l.Cut))
	return plainName(l.Partner) && plainName(l.Ref) && plainName(l.Item) &&
		l.No > 0 && l.No < 1000 && l.Ordered > 0 && l.Ordered < 1000001 &&
		l.Sent > -1 && l.Got > -1 && l.Cut > -1 && !(l.Got > l.Sent) && gone.Cmp(big.NewInt(l.Ordered)) < 1
}

// lineAhead: stands a ahead of b, by Partner, then by Ref, then by No?
func lineAhead(a impl.OrderLine, b impl.OrderLine) bool {
	if a.Partner != b.Partner {
		return a.Partner < b.Partner
	}
	if a.Ref != b.Ref {
		return a.Ref < b.Ref
	}
	return a.No < b.No
}

// linesPlainly holds each one to all ahead of it.
func linesPlainly(list []impl.OrderLine) bool {
	for at, l := range list {
		if !orderLinePlainly(l) {
			return false
		}
		for _, ahead := range list[:at] {
			if !lineAhead(ahead, l) {
				return false
			}
		}
	}
	return len(list) <= 200
}

// postPlainly posts piece by piece, till nothing more fits.
func postPlainly(l impl.OrderLine, kind int64, qty int64) impl.PostOut {
	if !orderLinePlainly(l) || kind < 1 || kind > 3 || qty < 1 || qty > 1000000 {
		return impl.PostOut{Code: impl.ErrForm}
	}
	out := impl.PostOut{Line: l}
	for range qty {
		next := out.Line
		switch kind {
		case 1:
			next.Cut++
		case 2:
			next.Sent++
		case 3:
			next.Got++
		}
		if next.Got > next.Sent || next.Sent+next.Cut > next.Ordered {
			out.Over++
			continue
		}
		out.Line = next
		out.Fit++
	}
	return out
}

func findPlainly(list []impl.OrderLine, partner string, ref string, no int64) int64 {
	if len(list) > 400 || len(partner) > 20000 || len(ref) > 20000 {
		return 0
	}
	for at, l := range list {
		if linesPlainly(list) && l.Partner == partner && l.Ref == ref && l.No == no {
			return int64(at)
		}
	}
	return -1
}

// addPlainly puts l ahead of the first one that does not stand ahead of it.
func addPlainly(list []impl.OrderLine, l impl.OrderLine) []impl.OrderLine {
	if len(list) > 400 {
		return nil
	}
	var behind []impl.OrderLine
	at := 0
	for ; at < len(list) && lineAhead(list[at], l); at++ {
		behind = append(behind, list[at])
	}
	behind = append(append(behind, l), list[at:]...)
	if !linesPlainly(list) || !linesPlainly(behind) {
		return list
	}
	return behind
}

// sameLines holds two lists against each other; an empty one and none are the same.
func sameLines(t *testing.T, what string, got []impl.OrderLine, want []impl.OrderLine) {
	t.Helper()
	if !slices.Equal(got, want) {
		t.Errorf("%s: got %s, want %s", what, short(got), short(want))
	}
}

// checkAllTold is promise 11.
func checkAllTold(t *testing.T, l impl.OrderLine) {
	t.Helper()
	open, transit := impl.LineOpen(l), impl.LineTransit(l)
	if open < 0 || transit < 0 || l.Got+transit+open+l.Cut != l.Ordered {
		t.Errorf("%+v: open %d, in transit %d", l, open, transit)
	}
}

// checkOrderLine holds what is told of one line to chapter 10.
func checkOrderLine(t *testing.T, l impl.OrderLine) bool {
	t.Helper()
	right := orderLinePlainly(l)
	if got := impl.LineRight(l); got != right {
		t.Errorf("%s: right is %v, want %v", short(l), got, right)
	}
	if got := impl.LinesRight([]impl.OrderLine{l}); got != right {
		t.Errorf("%s: right alone in a list is %v, want %v", short(l), got, right)
	}
	if right {
		checkAllTold(t, l)
		same(t, "open", impl.LineOpen(l), l.Ordered-(l.Sent+l.Cut))
		same(t, "in transit", impl.LineTransit(l), l.Sent-l.Got)
	} else if impl.LineOpen(l) != 0 || impl.LineTransit(l) != 0 {
		t.Errorf("%s: open %d, in transit %d, want noughts", short(l), impl.LineOpen(l), impl.LineTransit(l))
	}
	return right
}

// checkPost holds a posting to the plain one, and what is behind it to promise 11.
func checkPost(t *testing.T, l impl.OrderLine, kind int64, qty int64) impl.PostOut {
	t.Helper()
	out, want := impl.LinePost(l, kind, qty), postPlainly(l, kind, qty)
	if out != want {
		t.Errorf("%s, kind %d, %d pieces: got %s, want %s", short(l), kind, qty, short(out), short(want))
	}
	if out.Code != impl.OK {
		return out
	}
	same(t, "right behind a posting", impl.LineRight(out.Line), true)
	same(t, "fit or over", out.Fit+out.Over, qty)
	checkAllTold(t, out.Line)
	return out
}

// checkLines holds all that is asked of a list with l to what is plainly told here.
func checkLines(t *testing.T, list []impl.OrderLine, l impl.OrderLine) {
	t.Helper()
	if got, want := impl.LinesRight(list), linesPlainly(list); got != want {
		t.Errorf("%s: right is %v, want %v", short(list), got, want)
	}
	if got, want := impl.LineFind(list, l.Partner, l.Ref, l.No), findPlainly(list, l.Partner, l.Ref, l.No); got != want {
		t.Errorf("%s: %s is found at %d, want %d", short(list), short(l), got, want)
	}
	sameLines(t, "add", impl.LinesAdd(list, l), addPlainly(list, l))
}

// checkAdded is promise 31: l is found at its place, and all the others where they stood, or one behind.
func checkAdded(t *testing.T, list []impl.OrderLine, l impl.OrderLine) {
	t.Helper()
	behind := impl.LinesAdd(list, l)
	same(t, "one more", len(behind), len(list)+1)
	same(t, "right", impl.LinesRight(behind), true)
	place := impl.LineFind(behind, l.Partner, l.Ref, l.No)
	if place < 0 || place >= int64(len(behind)) || behind[place] != l {
		t.Errorf("%s: %v is found at %d", short(behind), l, place)
		return
	}
	for at, other := range list {
		want := int64(at)
		if want >= place {
			want++
		}
		same(t, "beside it", impl.LineFind(behind, other.Partner, other.Ref, other.No), want)
		same(t, "as it was", behind[want], other)
	}
}

func TestEveryShortLineAndPosting(t *testing.T) {
	rights := 0
	for _, text := range textsOf("01234567", 4) {
		if len(text) < 4 {
			continue
		}
		// From -1 on, so that a digit tells each number.
		n := func(at int) int64 { return int64(text[at]-'0') - 1 }
		l := counts(n(0), n(1), n(2), n(3))
		if checkOrderLine(t, l) {
			rights++
		}
		for kind := int64(-1); kind <= 5; kind++ {
			for qty := int64(-1); qty <= 8; qty++ {
				if !impl.LineRight(l) && qty != 1 {
					continue
				}
				checkPost(t, l, kind, qty)
			}
		}
	}
	// Of n pieces there is one line for each Sent, Got up to it, and Cut up to what is left.
	want := 0
	for ordered := 1; ordered <= 6; ordered++ {
		for sent := 0; sent <= ordered; sent++ {
			want += (sent + 1) * (ordered - sent + 1)
		}
	}
	same(t, "rights", rights, want)
}

// Promise 11, over every run of four postings, each of which may be more than fits.
func TestRunsOfPostings(t *testing.T) {
	for _, text := range textsOf("012345678", 4) {
		l := counts(5, 0, 0, 0)
		for at := range len(text) {
			step := int64(text[at] - '0')
			l = checkPost(t, l, step/3+1, []int64{1, 3, 6}[step%3]).Line
		}
		same(t, "ordered as ever", []any{l.Partner, l.Ref, l.No, l.Item, l.Ordered}, []any{"ACME", "PO-1", int64(7), "BOLT", int64(5)})
	}
}

func TestPostingsByKind(t *testing.T) {
	l := counts(10, 4, 1, 2)
	for _, want := range []struct {
		kind, qty int64
		out       impl.PostOut
	}{
		{impl.PostCut, 1, impl.PostOut{Line: counts(10, 4, 1, 3), Fit: 1}},
		{impl.PostCut, 4, impl.PostOut{Line: counts(10, 4, 1, 6), Fit: 4}},
		{impl.PostCut, 5, impl.PostOut{Line: counts(10, 4, 1, 6), Fit: 4, Over: 1}},
		{impl.PostSent, 1, impl.PostOut{Line: counts(10, 5, 1, 2), Fit: 1}},
		{impl.PostSent, 4, impl.PostOut{Line: counts(10, 8, 1, 2), Fit: 4}},
		{impl.PostSent, 1000000, impl.PostOut{Line: counts(10, 8, 1, 2), Fit: 4, Over: 999996}},
		{impl.PostGot, 1, impl.PostOut{Line: counts(10, 4, 2, 2), Fit: 1}},
		{impl.PostGot, 3, impl.PostOut{Line: counts(10, 4, 4, 2), Fit: 3}},
		{impl.PostGot, 4, impl.PostOut{Line: counts(10, 4, 4, 2), Fit: 3, Over: 1}},
	} {
		same(t, "posting", impl.LinePost(l, want.kind, want.qty), want.out)
	}
	for _, closed := range []impl.OrderLine{counts(10, 10, 10, 0), counts(10, 0, 0, 10), counts(10, 6, 6, 4)} {
		for kind := int64(impl.PostCut); kind <= impl.PostGot; kind++ {
			same(t, "all is over", impl.LinePost(closed, kind, 9), impl.PostOut{Line: closed, Over: 9})
		}
	}
	same(t, "the kinds", []int64{impl.PostCut, impl.PostSent, impl.PostGot}, []int64{1, 2, 3})
}

// hugeNumbers come to something small where they are summed up with a wrap-round.
var hugeNumbers = []int64{math.MinInt64, math.MinInt64 + 1, -1 << 62, -1 << 32, -2, -1, 1 << 32, 1 << 62, math.MaxInt64 - 1, math.MaxInt64}

func TestNumbersOfLines(t *testing.T) {
	most := int64(impl.MaxQty)
	for _, l := range []impl.OrderLine{
		counts(1, 0, 0, 0), counts(1, 1, 0, 0), counts(1, 1, 1, 0), counts(1, 0, 0, 1),
		counts(most, 0, 0, 0), counts(most, most, 0, 0), counts(most, most, most, 0), counts(most, 0, 0, most),
		counts(most, 1, 1, most-1), counts(most, most-1, 0, 1),
	} {
		same(t, "right", checkOrderLine(t, l), true)
		for kind := int64(impl.PostCut); kind <= impl.PostGot; kind++ {
			for _, qty := range []int64{1, most - 1, most} {
				checkPost(t, l, kind, qty)
			}
		}
	}
	for _, l := range []impl.OrderLine{
		{}, counts(0, 0, 0, 0), counts(most+1, 0, 0, 0), counts(most, most, 0, 1), counts(most, most+1, 0, 0),
		counts(most, most, most+1, 0), counts(most, 0, 0, most+1), counts(10, 6, 0, 5), counts(10, 3, 4, 0),
		counts(10, -1, 0, 0), counts(10, 0, -1, 0), counts(10, 0, 0, -1), counts(10, 11, 0, -1), counts(10, -1, -1, 11),
	} {
		same(t, "wrong", checkOrderLine(t, l), false)
		for kind := int64(impl.PostCut); kind <= impl.PostGot; kind++ {
			same(t, "wrong line", impl.LinePost(l, kind, 1), impl.PostOut{Code: impl.ErrForm})
		}
	}
	for _, a := range hugeNumbers {
		for _, b := range append(hugeNumbers, 0, 1, 10) {
			for _, l := range []impl.OrderLine{
				counts(a, b, 0, 0), counts(a, 0, b, 0), counts(a, 0, 0, b), counts(a, b, b, 0), counts(a, b, 0, b),
				counts(10, a, b, 0), counts(10, a, 0, b), counts(10, 0, a, b), counts(10, a, a, b), counts(10, a, b, b),
				counts(b, a, a, a), counts(b, a, a, 0), counts(b, a, 0, a), counts(b, 0, a, a),
				counts(10, 3, 1, a), counts(10, 3, a, 1), counts(10, a, 1, 3), counts(impl.MaxQty, impl.MaxQty, 0, a),
			} {
				same(t, "wrong", checkOrderLine(t, l), false)
				same(t, "no posting", impl.LinePost(l, impl.PostSent, 1), impl.PostOut{Code: impl.ErrForm})
			}
		}
	}
}

func TestNosAndNamesOfLines(t *testing.T) {
	for _, no := range append(hugeNumbers, 0, 1, 2, 998, 999, 1000, 1001) {
		l := counts(10, 4, 1, 2)
		l.No = no
		same(t, "No "+number(no), checkOrderLine(t, l), no >= 1 && no <= 999)
		checkPost(t, l, impl.PostSent, 3)
		checkLines(t, nil, l)
		checkLines(t, []impl.OrderLine{l}, l)
		checkLines(t, []impl.OrderLine{counts(1, 0, 0, 0)}, l)
	}
	for _, name := range append(wrongNames, "A", "Z", "A-0", "ABCDEFGHIJKL", "A-----------") {
		for field := range 3 {
			l := counts(10, 4, 1, 2)
			*[]*string{&l.Partner, &l.Ref, &l.Item}[field] = name
			same(t, "names", checkOrderLine(t, l), plainName(name))
			checkPost(t, l, impl.PostSent, 3)
			for _, list := range [][]impl.OrderLine{nil, {l}, {orderLine("ACME", "PO-0", 1)}, {orderLine("A", "A", 1), l}, {l, orderLine("ZZ", "A", 1)}} {
				checkLines(t, list, l)
				checkLines(t, list, orderLine("B", "PO-1", 7))
			}
		}
	}
}

// Each of the three refuses alone, with nothing beside the code.
func TestWrongPostings(t *testing.T) {
	refused := impl.PostOut{Code: impl.ErrForm}
	l := counts(10, 4, 1, 2)
	for _, kind := range append(hugeNumbers, 0, 4, 5, 7, 1<<32+1, 1<<32+2) {
		same(t, "kind", impl.LinePost(l, kind, 1), refused)
		same(t, "kind and qty", impl.LinePost(l, kind, 0), refused)
		same(t, "kind and line", impl.LinePost(impl.OrderLine{}, kind, 1), refused)
	}
	for _, qty := range append(hugeNumbers, 0, impl.MaxQty+1, 1<<32+1) {
		for kind := int64(impl.PostCut); kind <= impl.PostGot; kind++ {
			same(t, "qty", impl.LinePost(l, kind, qty), refused)
			same(t, "qty of a closed one", impl.LinePost(counts(10, 10, 10, 0), kind, qty), refused)
			same(t, "qty and line", impl.LinePost(impl.OrderLine{}, kind, qty), refused)
		}
	}
}

func TestLinesRight(t *testing.T) {
	for _, list := range [][]impl.OrderLine{
		nil,
		{},
		lineKeys("A A 1"),
		lineKeys("A A 1", "A A 2", "A A 10", "A A 999"),
		lineKeys("A A 9", "A AA 1", "A B 1", "AA A 1", "B A 1"),
		lineKeys("A A- 1", "A A0 1", "A AA 1"),
		lineKeys("A- B 2", "A0 B 1", "AA A 1"),
		lineKeys("A BC 1", "AB C 1"),
		lineKeys("A R1 2", "A R12 1"),
	} {
		same(t, "right", impl.LinesRight(list), true)
		same(t, "right plainly", linesPlainly(list), true)
	}
	for _, list := range [][]impl.OrderLine{
		{{}},
		lineKeys("A A 0"),
		lineKeys("A A 1", "A A 1"),
		lineKeys("A A 2", "A A 1"),
		lineKeys("A A 10", "A A 9"),
		lineKeys("A B 1", "A A 2"),
		lineKeys("B A 1", "A B 2"),
		lineKeys("A AA 1", "A A 2"),
		lineKeys("AA A 1", "A A 2"),
		lineKeys("AB C 1", "A BC 1"),
		lineKeys("A A 1", "A A 2", "A A 1000"),
		lineKeys("A A 1", "A A 2", "A A 2"),
		lineKeys("A A 1", "B A 1", "A A 2"),
	} {
		same(t, "wrong", impl.LinesRight(list), false)
		same(t, "wrong plainly", linesPlainly(list), false)
		sameLines(t, "as it is", impl.LinesAdd(list, orderLine("C", "C", 3)), list)
		for _, l := range list {
			same(t, "not found", impl.LineFind(list, l.Partner, l.Ref, l.No), int64(-1))
		}
	}
	other := lineKeys("A A 1", "A A 1")
	other[1].Item, other[1].Ordered = "NUT", 20
	same(t, "another item does not tell them apart", impl.LinesRight(other), false)
}

// Promise 31, over every short list, right or not, and every line that is added to it or asked of it.
func TestEveryShortListOfLines(t *testing.T) {
	few := lineKeys("A A 1", "A A 2", "A B 1", "A B 2", "B A 1", "B A 2", "B B 1", "B B 2")
	asked := append(slices.Clone(few), lineKeys("A A 3", "A AB 1", "AB A 1", "C A 1", "A A 0", "A A 1000", "a A 1", "A  1")...)
	rights := 0
	for _, text := range textsOf("01234567", 4) {
		var list []impl.OrderLine
		for at := range len(text) {
			list = append(list, few[text[at]-'0'])
		}
		if !linesPlainly(list) {
			checkLines(t, list, few[len(text)])
			continue
		}
		rights++
		for _, l := range asked {
			l.Item, l.Sent = "NUT", 3
			checkLines(t, list, l)
			if orderLinePlainly(l) && findPlainly(list, l.Partner, l.Ref, l.No) < 0 {
				checkAdded(t, list, l)
			} else {
				sameLines(t, "as it is", impl.LinesAdd(list, l), list)
			}
		}
	}
	// Rising lists of up to four of the eight: 1 + 8 + 28 + 56 + 70.
	same(t, "rights", rights, 163)
}

func TestLinesAreAddedInTheirPlace(t *testing.T) {
	list := lineKeys("B F 3", "B F 5", "B H 3", "D F 3")
	for _, want := range []struct {
		key  string
		list []impl.OrderLine
	}{
		{"A Z 9", lineKeys("A Z 9", "B F 3", "B F 5", "B H 3", "D F 3")},
		{"B F 2", lineKeys("B F 2", "B F 3", "B F 5", "B H 3", "D F 3")},
		{"B F 4", lineKeys("B F 3", "B F 4", "B F 5", "B H 3", "D F 3")},
		{"B F 10", lineKeys("B F 3", "B F 5", "B F 10", "B H 3", "D F 3")},
		{"B G 1", lineKeys("B F 3", "B F 5", "B G 1", "B H 3", "D F 3")},
		{"B Z 1", lineKeys("B F 3", "B F 5", "B H 3", "B Z 1", "D F 3")},
		{"C A 1", lineKeys("B F 3", "B F 5", "B H 3", "C A 1", "D F 3")},
		{"E A 1", lineKeys("B F 3", "B F 5", "B H 3", "D F 3", "E A 1")},
		{"B F 3", list}, {"D F 3", list}, {"B F 0", list}, {"B F 1000", list}, {"b F 4", list}, {"B f 4", list},
	} {
		sameLines(t, want.key, impl.LinesAdd(list, lineKeys(want.key)[0]), want.list)
	}
	for at, l := range list {
		same(t, "found", impl.LineFind(list, l.Partner, l.Ref, l.No), int64(at))
	}
	for _, l := range lineKeys("B F 4", "B F 0", "B F -1", "B F 1000", "B G 3", "C F 3", "D H 3", "b F 3", "B f 3", "B  3") {
		same(t, "none", impl.LineFind(list, l.Partner, l.Ref, l.No), int64(-1))
	}
	same(t, "none in nothing", impl.LineFind(nil, "B", "F", 3), int64(-1))
	for _, no := range hugeNumbers {
		same(t, "none of such a No", impl.LineFind(list, "B", "F", no), int64(-1))
	}
	wrong := counts(10, 6, 0, 5)
	sameLines(t, "no such one is added", impl.LinesAdd(list, wrong), list)
	sameLines(t, "nor to nothing", impl.LinesAdd(nil, wrong), nil)
	there := lineKeys("B F 5")[0]
	there.Item, there.Sent = "NUT", 2
	sameLines(t, "the one that is there stays", impl.LinesAdd(list, there), list)
}

func TestTheMostLines(t *testing.T) {
	full := manyLines(impl.MaxOpen)
	same(t, "full", impl.LinesRight(full), true)
	for at, l := range full {
		same(t, "found", impl.LineFind(full, l.Partner, l.Ref, l.No), int64(at))
	}
	for _, l := range []impl.OrderLine{orderLine("A", "A", 1), orderLine("C", "A", 1), orderLine("Z", "A", 1), full[100]} {
		checkLines(t, full, l)
		sameLines(t, "no place", impl.LinesAdd(full, l), full)
	}
	for _, at := range []int{0, 1, 66, 67, 100, 198, 199} {
		less := slices.Delete(slices.Clone(full), at, at+1)
		same(t, "left out", impl.LineFind(less, full[at].Partner, full[at].Ref, full[at].No), int64(-1))
		checkAdded(t, less, full[at])
		sameLines(t, "the last place", impl.LinesAdd(less, full[at]), full)
	}
	for _, n := range []int{201, 202, 399, 400} {
		list := manyLines(n)
		same(t, "too many", impl.LinesRight(list), false)
		checkLines(t, list, list[0])
		same(t, "not found", impl.LineFind(list, list[3].Partner, list[3].Ref, list[3].No), int64(-1))
		sameLines(t, "as it is", impl.LinesAdd(list, orderLine("A", "A", 1)), list)
	}
	for _, n := range []int{401, 1000} {
		list := manyLines(n)
		same(t, "too long", impl.LinesRight(list), false)
		checkLines(t, list, list[0])
		for _, no := range []int64{list[3].No, -1} {
			same(t, "refused", impl.LineFind(list, list[3].Partner, list[3].Ref, no), int64(0))
		}
		same(t, "refused", len(impl.LinesAdd(list, orderLine("A", "A", 1))), 0)
	}
}

// A text that is handed in as such has a limit; a field of a line is none.
func TestTextsAskedOfLines(t *testing.T) {
	long := strings.Repeat("A", impl.MaxBytes)
	for _, list := range [][]impl.OrderLine{nil, lineKeys("A A 1"), lineKeys("A B 1", "A A 1"), manyLines(impl.MaxOpen + 1)} {
		for _, text := range []string{"", "x", "A B", "Ä\xff", "ABCDEFGHIJKLM", long} {
			same(t, "no such partner", impl.LineFind(list, text, "A", 1), int64(-1))
			same(t, "no such ref", impl.LineFind(list, "A", text, 1), int64(-1))
		}
		same(t, "too long a partner", impl.LineFind(list, long+"A", "A", 1), int64(0))
		same(t, "too long a ref", impl.LineFind(list, "A", long+"A", 1), int64(0))
		l := orderLine("A", "A", 1)
		l.Item = long + "A"
		sameLines(t, "too long an item", impl.LinesAdd(list, l), list)
		l = orderLine("A", long+"A", 1)
		sameLines(t, "too long a ref of a line", impl.LinesAdd(list, l), list)
	}
	wrong := counts(1, 0, 0, 0)
	wrong.Partner = long + "A"
	same(t, "ErrForm, not ErrSize", impl.LinePost(wrong, impl.PostCut, 1), impl.PostOut{Code: impl.ErrForm})
	same(t, "not found among wrong ones", impl.LineFind([]impl.OrderLine{wrong}, "A", "A", 1), int64(-1))
}

// Lines added one by one, in any order, come to one list.
func TestAddsInAnyOrder(t *testing.T) {
	want := manyLines(60)
	for _, step := range []int{1, 7, 11, 59} {
		var list []impl.OrderLine
		for at := range want {
			l := want[(at*step+5)%60]
			checkAdded(t, list, l)
			list = impl.LinesAdd(list, l)
			sameLines(t, "not once more", impl.LinesAdd(list, l), list)
		}
		sameLines(t, "in the end", list, want)
	}
}

// sharesLine: lies a text of got within one of given?
func sharesLine(got []impl.OrderLine, given []impl.OrderLine) bool {
	for _, a := range got {
		for _, b := range given {
			for _, text := range []string{a.Partner, a.Ref, a.Item} {
				if within(text, b.Partner) || within(text, b.Ref) || within(text, b.Item) {
					return true
				}
			}
		}
	}
	return false
}

func TestLinesAreNewMemory(t *testing.T) {
	fresh := func(list []impl.OrderLine) []impl.OrderLine {
		behind := make([]impl.OrderLine, 0, 100)
		for _, l := range list {
			l.Partner, l.Ref, l.Item = strings.Clone(l.Partner), strings.Clone(l.Ref), strings.Clone(l.Item)
			behind = append(behind, l)
		}
		return behind
	}
	for _, given := range [][]impl.OrderLine{lineKeys("A A 1", "B A 1", "C A 1"), lineKeys("A A 1", "A A 1"), lineKeys("B B 2"), lineKeys("A A 1")} {
		list := fresh(given)
		for _, l := range fresh(lineKeys("B B 2", "A A 0", "A A 1", "Z Z 9")) {
			answer := impl.LinesAdd(list, l)
			same(t, "shared", sharesLine(answer, append(slices.Clone(list), l)), false)
			for at := range answer {
				answer[at] = impl.OrderLine{}
			}
			_ = append(answer, impl.OrderLine{No: 1})
			sameLines(t, "not changed", list, given)
			sameLines(t, "nothing behind it", list[:100][len(list):], make([]impl.OrderLine, 100-len(list)))
		}
	}
	list := fresh(lineKeys("A A 1"))
	for kind := int64(impl.PostCut); kind <= impl.PostGot; kind++ {
		out := impl.LinePost(list[0], kind, 3)
		same(t, "shared", sharesLine([]impl.OrderLine{out.Line}, list), false)
	}
	sameLines(t, "not changed", list, lineKeys("A A 1"))
}
