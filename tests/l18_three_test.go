package tests

import (
	"fmt"
	"slices"
	"strings"
	"sync"
	"testing"

	"loop.example/g00096/impl"
)

// standWords are the words of the places where a line may stand; none of them is told of a wrong one.
var standWords = []string{"", "new", "part", "way", "done", "gone"}

// standPlainly asks which pieces a right line has: such as are open, in transit, got and cut.
func standPlainly(l impl.OrderLine) int64 {
	open, transit := l.Ordered-l.Sent-l.Cut, l.Sent-l.Got
	switch {
	case !orderLinePlainly(l):
		return 0
	case open == 0 && transit == 0 && l.Got == 0:
		return 5
	case open == 0 && transit == 0:
		return 4
	case open == 0:
		return 3
	case transit == 0 && l.Got == 0 && l.Cut == 0:
		return 1
	}
	return 2
}

// countPlainly goes through the list once for each place.
func countPlainly(list []impl.OrderLine, partner string) impl.Threes {
	if len(partner) > 20000 || !linesPlainly(list) {
		return impl.Threes{}
	}
	at := func(stand int64) int64 {
		n := int64(0)
		for _, l := range list {
			if standPlainly(l) == stand && (partner == "" || partner == l.Partner) {
				n++
			}
		}
		return n
	}
	return impl.Threes{New: at(1), Part: at(2), Way: at(3), Done: at(4), Gone: at(5)}
}

// orderPlainly tells a set of places, one bit for each: what stands there of the order.
func orderPlainly(list []impl.OrderLine, partner string, ref string) int64 {
	set := 0
	for _, l := range list {
		if l.Partner == partner && l.Ref == ref {
			set |= 1 << standPlainly(l)
		}
	}
	if len(partner) > 20000 || len(ref) > 20000 || !linesPlainly(list) {
		return 0
	}
	switch set {
	case 0:
		return 0
	case 1 << 1, 1 << 3, 1 << 4, 1 << 5:
		return int64(slices.Index([]int{1 << 1, -1, 1 << 3, 1 << 4, 1 << 5}, set)) + 1
	case 1<<4 | 1<<5:
		return 4
	}
	return 2
}

// closePlainly leaves out what nothing more comes of: all of it is got or cut.
func closePlainly(list []impl.OrderLine) []impl.OrderLine {
	if len(list) > 400 {
		return nil
	}
	if !linesPlainly(list) {
		return list
	}
	var left []impl.OrderLine
	for _, l := range list {
		if l.Got+l.Cut < l.Ordered {
			left = append(left, l)
		}
	}
	return left
}

// allCounted sums up the lines of all places.
func allCounted(c impl.Threes) int64 {
	return c.New + c.Part + c.Way + c.Done + c.Gone
}

// checkStand holds what is told of one line to chapter 19: it stands at just one place, alone, in a count,
// and in its order.
func checkStand(t *testing.T, l impl.OrderLine) int64 {
	t.Helper()
	stand, want := impl.ThreeOf(l), standPlainly(l)
	if stand != want {
		t.Errorf("%s: stands at %d, want %d", short(l), stand, want)
	}
	same(t, "the word of "+short(l), impl.ThreeText(l), standWords[want])
	checkStands(t, []impl.OrderLine{l}, l.Partner, l.Ref)
	if right := impl.LineRight(l); right != (stand > 0) {
		t.Errorf("%s: right is %v, and it stands at %d", short(l), right, stand)
	} else if right {
		same(t, "in its order", impl.ThreeOrder([]impl.OrderLine{l}, l.Partner, l.Ref), stand)
		same(t, "counts once", allCounted(impl.ThreeCount([]impl.OrderLine{l}, l.Partner)), int64(1))
		same(t, "closed", len(impl.CloseLines([]impl.OrderLine{l})) == 0, impl.LineOpen(l)+impl.LineTransit(l) == 0)
	}
	return stand
}

// checkStands holds what is told of a list to chapter 19, and to promise 28.
func checkStands(t *testing.T, list []impl.OrderLine, partner string, ref string) {
	t.Helper()
	for _, of := range []string{"", partner} {
		if got, want := impl.ThreeCount(list, of), countPlainly(list, of); got != want {
			t.Errorf("%s of %s: counted %+v, want %+v", short(list), short(of), got, want)
		}
	}
	if got, want := impl.ThreeOrder(list, partner, ref), orderPlainly(list, partner, ref); got != want {
		t.Errorf("%s: the order %s %s stands at %d, want %d", short(list), short(partner), short(ref), got, want)
	}
	sameLines(t, "closed", impl.CloseLines(list), closePlainly(list))
	if impl.LinesRight(list) {
		checkEachOnce(t, list)
		checkClosed(t, list)
	}
}

// checkEachOnce: does each line of a right list count once, where it stands, and among its Partner's?
func checkEachOnce(t *testing.T, list []impl.OrderLine) {
	t.Helper()
	var stands [6]int64
	partners := map[string]impl.Threes{}
	for _, l := range list {
		stands[impl.ThreeOf(l)]++
		partners[l.Partner] = impl.ThreeCount(list, l.Partner)
	}
	all := impl.ThreeCount(list, "")
	same(t, "each where it stands", [6]int64{0, all.New, all.Part, all.Way, all.Done, all.Gone}, stands)
	same(t, "each once", allCounted(all), int64(len(list)))
	sum := int64(0)
	for _, c := range partners {
		sum += allCounted(c)
	}
	same(t, "each at its Partner", sum, int64(len(list)))
}

// checkClosed: does closing the lines of a right list keep all that is open or in transit, and nothing else?
func checkClosed(t *testing.T, list []impl.OrderLine) {
	t.Helper()
	left := impl.CloseLines(list)
	b, behind := impl.Book{Lines: list}, impl.Book{Lines: left}
	same(t, "right", impl.LinesRight(left), true)
	sameText(t, "all that is open or in transit", impl.LinesText(behind, ""), impl.LinesText(b, ""))
	same(t, "nothing else", strings.Count(impl.LinesText(b, ""), "\n"), len(left))
	for _, l := range list {
		for _, partner := range []string{"", l.Partner} {
			same(t, "open", impl.BookOrdered(behind, partner, l.Item), impl.BookOrdered(b, partner, l.Item))
			same(t, "in transit", impl.BookTransit(behind, partner, l.Item), impl.BookTransit(b, partner, l.Item))
		}
		at := impl.LineFind(left, l.Partner, l.Ref, l.No)
		same(t, "kept", at >= 0 && left[max(at, 0)] == l, impl.LineOpen(l) > 0 || impl.LineTransit(l) > 0)
	}
	all, counted := impl.ThreeCount(list, ""), impl.ThreeCount(left, "")
	same(t, "counted", counted, impl.Threes{New: all.New, Part: all.Part, Way: all.Way})
	sameLines(t, "closed once more", impl.CloseLines(left), left)
}

// standing gives a line that stands there, in one of several ways.
func standing(stand int64, way int) impl.OrderLine {
	ways := [][]impl.OrderLine{
		1: {counts(10, 0, 0, 0), counts(1, 0, 0, 0)},
		2: {counts(10, 4, 0, 0), counts(10, 0, 0, 3), counts(10, 4, 4, 0), counts(10, 4, 1, 3), counts(10, 9, 9, 0), counts(10, 4, 4, 5)},
		3: {counts(10, 10, 0, 0), counts(10, 10, 9, 0), counts(10, 4, 3, 6), counts(10, 1, 0, 9)},
		4: {counts(10, 10, 10, 0), counts(10, 4, 4, 6), counts(10, 1, 1, 9)},
		5: {counts(10, 0, 0, 10), counts(1, 0, 0, 1)},
	}[stand]
	return ways[way%len(ways)]
}

// orderStanding gives the lines of one order, of which each digit tells where one stands.
func orderStanding(partner string, ref string, stands string) []impl.OrderLine {
	var list []impl.OrderLine
	for at := range len(stands) {
		l := standing(int64(stands[at]-'0'), at)
		l.Partner, l.Ref, l.No = partner, ref, int64(at+1)
		list = append(list, l)
	}
	return list
}

func TestWhereLinesStand(t *testing.T) {
	same(t, "the places", []int64{impl.ThreeNew, impl.ThreePart, impl.ThreeWay, impl.ThreeDone, impl.ThreeGone}, []int64{1, 2, 3, 4, 5})
	for stand := int64(1); stand <= 5; stand++ {
		for way := range 6 {
			l := standing(stand, way)
			same(t, short(l), impl.ThreeOf(l), stand)
			same(t, short(l), impl.ThreeText(l), standWords[stand])
			same(t, short(l), checkStand(t, l), stand)
		}
	}
	for _, want := range []struct {
		line impl.OrderLine
		word string
	}{
		{counts(10, 0, 0, 0), "new"}, {counts(10, 1, 0, 0), "part"}, {counts(10, 0, 0, 1), "part"}, {counts(10, 1, 1, 0), "part"},
		{counts(10, 0, 0, 9), "part"}, {counts(10, 9, 9, 0), "part"}, {counts(10, 9, 0, 0), "part"}, {counts(10, 5, 5, 4), "part"},
		{counts(10, 10, 0, 0), "way"}, {counts(10, 10, 9, 0), "way"}, {counts(10, 1, 0, 9), "way"}, {counts(10, 5, 4, 5), "way"},
		{counts(10, 10, 10, 0), "done"}, {counts(10, 1, 1, 9), "done"}, {counts(10, 9, 9, 1), "done"},
		{counts(10, 0, 0, 10), "gone"}, {counts(10, 0, 0, 11), ""}, {counts(10, 5, 6, 0), ""}, {impl.OrderLine{}, ""},
	} {
		same(t, short(want.line), impl.ThreeText(want.line), want.word)
	}
}

// Promise 28, over every line of small numbers, right or not.
func TestWhereEveryShortLineStands(t *testing.T) {
	var stands [6]int
	for _, text := range textsOf("01234567", 4) {
		if len(text) < 4 {
			continue
		}
		// From -1 on, so that a digit tells each number.
		n := func(at int) int64 { return int64(text[at]-'0') - 1 }
		stands[checkStand(t, counts(n(0), n(1), n(2), n(3)))]++
	}
	var want [6]int
	for ordered := 1; ordered <= 6; ordered++ {
		// One is new, and one is gone; of those sent whole, with what is cut, one is done for each number sent,
		// and one is on its way for each number of these got that is less.
		want[1], want[5] = want[1]+1, want[5]+1
		want[4] += ordered
		want[3] += ordered * (ordered + 1) / 2
		for sent := 0; sent < ordered; sent++ {
			want[2] += (sent + 1) * (ordered - sent)
		}
		want[2]--
	}
	want[0] = 8*8*8*8 - want[1] - want[2] - want[3] - want[4] - want[5]
	same(t, "stands", stands, want)
}

func TestNumbersOfLinesThatStand(t *testing.T) {
	most := int64(impl.MaxQty)
	for _, want := range []struct {
		line  impl.OrderLine
		stand int64
	}{
		{counts(1, 0, 0, 0), 1}, {counts(1, 1, 0, 0), 3}, {counts(1, 1, 1, 0), 4}, {counts(1, 0, 0, 1), 5},
		{counts(most, 0, 0, 0), 1}, {counts(most, 1, 0, 0), 2}, {counts(most, 0, 0, 1), 2}, {counts(most, most-1, most-1, 0), 2},
		{counts(most, 0, 0, most-1), 2}, {counts(most, most, 0, 0), 3}, {counts(most, most, most-1, 0), 3}, {counts(most, 1, 0, most-1), 3},
		{counts(most, most, most, 0), 4}, {counts(most, 1, 1, most-1), 4}, {counts(most, most-1, most-1, 1), 4}, {counts(most, 0, 0, most), 5},
		{counts(0, 0, 0, 0), 0}, {counts(most+1, 0, 0, 0), 0}, {counts(most+1, most+1, most+1, 0), 0}, {counts(most+1, 0, 0, most+1), 0},
		{counts(most, most, 0, 1), 0}, {counts(most, most, most+1, 0), 0}, {counts(most, 0, 0, most+1), 0}, {counts(10, 6, 6, 5), 0},
		{counts(10, -1, -1, 11), 0}, {counts(10, 11, 11, -1), 0}, {counts(10, 0, -1, 10), 0}, {counts(-1, 0, 0, -1), 0}, {counts(-1, -1, -1, 0), 0},
	} {
		same(t, short(want.line), checkStand(t, want.line), want.stand)
	}
	for _, a := range hugeNumbers {
		for _, b := range append(slices.Clone(hugeNumbers), 0, 1, 10) {
			for _, l := range []impl.OrderLine{
				counts(a, b, 0, 0), counts(a, 0, b, 0), counts(a, 0, 0, b), counts(a, b, b, 0), counts(a, a, a, b), counts(a, b, b, a),
				counts(10, a, b, 0), counts(10, a, 0, b), counts(10, a, a, b), counts(10, a, b, b), counts(b, a, a, a), counts(b, 0, 0, a),
			} {
				same(t, "nowhere", checkStand(t, l), int64(0))
			}
		}
	}
}

func TestNosAndNamesOfLinesThatStand(t *testing.T) {
	for stand := int64(1); stand <= 5; stand++ {
		for _, no := range append(slices.Clone(hugeNumbers), 0, 1, 2, 998, 999, 1000) {
			l := standing(stand, 0)
			l.No = no
			same(t, "No "+number(no), checkStand(t, l) == stand, no >= 1 && no <= 999)
		}
		for _, name := range append(slices.Clone(wrongNames), "A", "Z", "A-0", "ABCDEFGHIJKL") {
			for field := range 3 {
				l := standing(stand, 0)
				*[]*string{&l.Partner, &l.Ref, &l.Item}[field] = name
				same(t, "names", checkStand(t, l) == stand, plainName(name))
			}
		}
	}
}

// Every run of four postings: what is posted leads on from place to place, and never from done or gone.
func TestPostingsLeadOn(t *testing.T) {
	// Where a line may stand behind a posting, by where it stood.
	leads := map[int64][]int64{1: {2, 3, 5}, 2: {2, 3, 4, 5}, 3: {3, 4}}
	met := map[[2]int64]bool{}
	for _, text := range textsOf("012345678", 4) {
		l := counts(5, 0, 0, 0)
		for at := range len(text) {
			step := int64(text[at] - '0')
			from := checkStand(t, l)
			out := impl.LinePost(l, step/3+1, []int64{1, 3, 6}[step%3])
			to := checkStand(t, out.Line)
			if out.Fit == 0 {
				same(t, "as it was", to, from)
			} else {
				same(t, fmt.Sprint("leads from ", from, " to ", to), slices.Contains(leads[from], to), true)
				met[[2]int64{from, to}] = true
			}
			l = out.Line
		}
	}
	same(t, "each of these is met", len(met), 3+4+2)
}

// Every order of up to five lines, at each place: it stands alone, and beside orders that are like it by
// half.
func TestEveryShortOrder(t *testing.T) {
	var stands [6]int
	for _, text := range textsOf("12345", 5) {
		list := orderStanding("ACME", "PO-1", text)
		checkStands(t, list, "ACME", "PO-1")
		stand := impl.ThreeOrder(list, "ACME", "PO-1")
		stands[stand]++
		for at, other := range []string{"", "1", "2", "3", "4", "5"} {
			beside := slices.Concat(
				orderStanding("ACM", "PO-1", other), orderStanding("ACME", "PO-0", "12345"[at:]), list,
				orderStanding("ACME", "PO-10", other), orderStanding("ACMED", "PO-1", "54321"[at:]))
			same(t, "beside others", impl.ThreeOrder(beside, "ACME", "PO-1"), stand)
			if len(text) < 4 {
				checkStands(t, beside, "ACME", "PO-1")
			}
		}
	}
	// There are 2^n orders of n lines that are done or gone, of which one is gone and all others are done; one
	// is new, and one is on its way. All others are parts.
	want := [6]int{0: 1, 1: 5, 3: 5, 4: 1 + 3 + 7 + 15 + 31, 5: 5}
	want[2] = 5 + 25 + 125 + 625 + 3125 - want[1] - want[3] - want[4] - want[5]
	same(t, "stands", stands, want)
}

func TestOrders(t *testing.T) {
	for _, want := range []struct {
		stands string
		stand  int64
	}{
		{"1", 1}, {"2", 2}, {"3", 3}, {"4", 4}, {"5", 5}, {"111", 1}, {"222", 2}, {"333", 3}, {"444", 4}, {"555", 5},
		{"45", 4}, {"54", 4}, {"554", 4}, {"455", 4}, {"545", 4}, {"12", 2}, {"13", 2}, {"14", 2}, {"15", 2}, {"31", 2},
		{"34", 2}, {"43", 2}, {"35", 2}, {"53", 2}, {"41", 2}, {"51", 2}, {"52", 2}, {"42", 2}, {"451", 2}, {"453", 2}, {"554443", 2}, {"111112", 2},
	} {
		list := orderStanding("ACME", "PO-1", want.stands)
		same(t, want.stands, impl.ThreeOrder(list, "ACME", "PO-1"), want.stand)
		checkStands(t, list, "ACME", "PO-1")
	}
	list := slices.Concat(orderStanding("ACME", "PO-1", "1"), orderStanding("ACME", "PO-2", "345"), orderStanding("C-1", "PO-1", "55"))
	same(t, "by Ref", []int64{impl.ThreeOrder(list, "ACME", "PO-1"), impl.ThreeOrder(list, "ACME", "PO-2"), impl.ThreeOrder(list, "C-1", "PO-1")}, []int64{1, 2, 5})
	for _, key := range [][2]string{{"", "PO-1"}, {"ACME", ""}, {"", ""}, {"C-1", "PO-2"}, {"ACM", "PO-1"}, {"ACME", "PO"}, {"ACME", "PO-11"}, {"acme", "PO-1"}, {"ZZ", "PO-1"}, {"A", "A"}, {"PO-1", "ACME"}, {"BOLT", "PO-1"}} {
		same(t, "there is none", impl.ThreeOrder(list, key[0], key[1]), int64(0))
		checkStands(t, list, key[0], key[1])
	}
	same(t, "all", impl.ThreeCount(list, ""), impl.Threes{New: 1, Way: 1, Done: 1, Gone: 3})
	same(t, "of ACME", impl.ThreeCount(list, "ACME"), impl.Threes{New: 1, Way: 1, Done: 1, Gone: 1})
	same(t, "of C-1", impl.ThreeCount(list, "C-1"), impl.Threes{Gone: 2})
	for _, partner := range []string{"C", "ACM", "ACMED", "acme", "PO-1", "BOLT", " ", "\x00"} {
		same(t, "of nobody", impl.ThreeCount(list, partner), impl.Threes{})
	}
	sameLines(t, "left", impl.CloseLines(list), []impl.OrderLine{list[0], list[1]})
}

func TestStandsOfNothing(t *testing.T) {
	for _, list := range [][]impl.OrderLine{nil, {}} {
		for _, name := range []string{"", "ACME", "x"} {
			same(t, "count", impl.ThreeCount(list, name), impl.Threes{})
			same(t, "order", impl.ThreeOrder(list, name, name), int64(0))
		}
		same(t, "nothing is left", len(impl.CloseLines(list)), 0)
	}
	same(t, "all are closed", len(impl.CloseLines(orderStanding("ACME", "PO-1", "4545"))), 0)
}

// One that is not right, at each place, or a list that does not rise: nothing is counted, no order stands
// anywhere, and the list is as it is.
func TestStandsOfWrongLists(t *testing.T) {
	var lists [][]impl.OrderLine
	right := orderStanding("ACME", "PO-1", "14253")
	for at := range right {
		for _, change := range []func(l *impl.OrderLine){
			func(l *impl.OrderLine) { *l = impl.OrderLine{} },
			func(l *impl.OrderLine) { l.Cut = 11 },
			func(l *impl.OrderLine) { l.Got = l.Sent + 1 },
			func(l *impl.OrderLine) { l.Ordered = impl.MaxQty + 1 },
			func(l *impl.OrderLine) { l.Item = "bolt" },
			func(l *impl.OrderLine) { l.Ref = "" },
			func(l *impl.OrderLine) { l.No = 1000 },
			func(l *impl.OrderLine) { l.No = 7 - l.No%2 },
		} {
			list := slices.Clone(right)
			change(&list[at])
			if linesPlainly(list) {
				continue
			}
			lists = append(lists, list)
		}
		lists = append(lists, slices.Insert(slices.Clone(right), at, right[at]))
	}
	slices.Reverse(right)
	lists = append(lists, right, append(orderStanding("C-1", "PO-1", "5"), orderStanding("ACME", "PO-1", "5")...))
	same(t, "many", len(lists) > 40, true)
	for _, list := range lists {
		same(t, "wrong", impl.LinesRight(list), false)
		for _, partner := range []string{"", "ACME", "C-1"} {
			checkStands(t, list, partner, "PO-1")
			same(t, "noughts", impl.ThreeCount(list, partner), impl.Threes{})
			same(t, "nowhere", impl.ThreeOrder(list, partner, "PO-1"), int64(0))
		}
		sameLines(t, "as it is", impl.CloseLines(list), list)
	}
}

// ofTheMost gives n lines of three Partners, that stand at each place in turn.
func ofTheMost(n int) []impl.OrderLine {
	list := manyLines(n)
	for at, l := range list {
		list[at] = standing(int64(at%5)+1, at/5)
		list[at].Partner, list[at].Ref, list[at].No = l.Partner, l.Ref, l.No
	}
	return list
}

func TestStandsOfTheMost(t *testing.T) {
	full := ofTheMost(impl.MaxOpen)
	same(t, "full", impl.ThreeCount(full, ""), impl.Threes{New: 40, Part: 40, Way: 40, Done: 40, Gone: 40})
	same(t, "left", len(impl.CloseLines(full)), 120)
	for _, at := range []int{0, 8, 66, 67, 133, 199} {
		checkStands(t, full, full[at].Partner, full[at].Ref)
	}
	for stand := int64(1); stand <= 5; stand++ {
		for at := range full {
			l := standing(stand, at)
			l.Partner, l.Ref, l.No = "ACME", "PO-1", int64(at+1)
			full[at] = l
		}
		same(t, "one order", impl.ThreeOrder(full, "ACME", "PO-1"), stand)
		same(t, "all or none", len(impl.CloseLines(full)), map[bool]int{true: impl.MaxOpen}[stand < 4])
		checkStands(t, full, "ACME", "PO-1")
		full[impl.MaxOpen-1] = standing(1, 0)
		full[impl.MaxOpen-1].Ref, full[impl.MaxOpen-1].No = "PO-1", 999
		same(t, "but the last", impl.ThreeOrder(full, "ACME", "PO-1"), []int64{0, 1, 2, 2, 2, 2}[stand])
	}
	for _, n := range []int{199, 200, 201, 202, 399, 400} {
		list := ofTheMost(n)
		checkStands(t, list, list[3].Partner, list[3].Ref)
		same(t, "counted", allCounted(impl.ThreeCount(list, "")), map[bool]int64{true: int64(n)}[n <= impl.MaxOpen])
		same(t, "an order", impl.ThreeOrder(list, list[3].Partner, list[3].Ref) > 0, n <= impl.MaxOpen)
		same(t, "as it is", len(impl.CloseLines(list)) == n, n > impl.MaxOpen)
	}
	for _, n := range []int{401, 402, 1000} {
		list := ofTheMost(n)
		checkStands(t, list, list[3].Partner, list[3].Ref)
		same(t, "refused", impl.ThreeCount(list, ""), impl.Threes{})
		same(t, "refused", impl.ThreeOrder(list, list[3].Partner, list[3].Ref), int64(0))
		same(t, "refused", len(impl.CloseLines(list)), 0)
	}
}

// A text that is handed in as such has a limit; a field of a line is none.
func TestTextsAskedOfStands(t *testing.T) {
	long := strings.Repeat("A", impl.MaxBytes)
	wrong := orderStanding("ACME", long+"A", "11")
	for _, list := range [][]impl.OrderLine{nil, orderStanding("ACME", "PO-1", "123"), wrong, ofTheMost(impl.MaxOpen), ofTheMost(impl.MaxOpen + 1)} {
		for _, text := range append(slices.Clone(wrongNames), long, long+"A") {
			checkStands(t, list, text, "PO-1")
			checkStands(t, list, "ACME", text)
			same(t, "nobody", impl.ThreeOrder(list, text, "PO-1"), int64(0))
			same(t, "no order", impl.ThreeOrder(list, "ACME", text), int64(0))
			if text != "" {
				same(t, "of nobody", impl.ThreeCount(list, text), impl.Threes{})
			}
		}
	}
	sameLines(t, "as it is", impl.CloseLines(wrong), wrong)
	same(t, "nowhere", impl.ThreeText(wrong[0]), "")
}

// What is booked leads lines and orders on, and what is left of a book whose lines are closed is booked on
// as ever.
func TestStandsOfBookedPapers(t *testing.T) {
	b := impl.Book{}
	for _, step := range []struct {
		paper string
		order int64
		count impl.Threes
	}{
		{"order PO-1: 1 BOLT 10, 2 NUT 5, 3 ZIP 1", 1, impl.Threes{New: 3}},
		{"sent PO-1: 1 4", 2, impl.Threes{New: 2, Part: 1}},
		{"answer PO-1: 3 1", 2, impl.Threes{New: 1, Part: 1, Gone: 1}},
		{"sent PO-1: 1 6, 2 5", 2, impl.Threes{Way: 2, Gone: 1}},
		{"got PO-1: 1 9", 2, impl.Threes{Way: 2, Gone: 1}},
		{"got PO-1: 1 1, 2 4", 2, impl.Threes{Way: 1, Done: 1, Gone: 1}},
		{"got PO-1: 2 1", 4, impl.Threes{Done: 2, Gone: 1}},
		{"sent PO-1: 1 1, 2 1, 3 1", 4, impl.Threes{Done: 2, Gone: 1}},
	} {
		p := paperBy(step.paper)
		closed := impl.BookPaper(impl.Book{Stocks: b.Stocks, Lines: impl.CloseLines(b.Lines)}, nil, "ACME", p)
		out := impl.BookPaper(b, nil, "ACME", p)
		same(t, step.paper, out.Code, int64(impl.OK))
		if closed.Code == impl.OK {
			sameLines(t, "booked on", impl.CloseLines(closed.Book.Lines), impl.CloseLines(out.Book.Lines))
		} else {
			// Only to lines of which nothing more comes nothing can be posted then.
			same(t, "closed lines", []int64{closed.Code, int64(len(out.Diffs))}, []int64{impl.ErrNone, 3})
		}
		b = out.Book
		same(t, step.paper, impl.ThreeOrder(b.Lines, "ACME", "PO-1"), step.order)
		same(t, step.paper, impl.ThreeCount(b.Lines, "ACME"), step.count)
		checkStands(t, b.Lines, "ACME", "PO-1")
	}
	same(t, "nothing is left", len(impl.CloseLines(b.Lines)), 0)
}

// What is told changes nothing of a list, and shares no memory with it, also where it is as it is.
func TestLinesLeftAreNewMemory(t *testing.T) {
	wrong := orderStanding("ACME", "PO-1", "1234")
	slices.Reverse(wrong)
	for _, lines := range [][]impl.OrderLine{nil, orderStanding("ACME", "PO-1", "1"), orderStanding("ACME", "PO-1", "123"), orderStanding("ACME", "PO-1", "4153"), orderStanding("ACME", "PO-1", "54"), wrong, ofTheMost(impl.MaxOpen), ofTheMost(impl.MaxOpen + 1)} {
		given := impl.Book{Lines: lines}
		b, partner, ref := freshBook(given), strings.Clone("ACME"), strings.Clone("PO-1")
		impl.ThreeCount(b.Lines, partner)
		impl.ThreeOrder(b.Lines, partner, ref)
		for _, l := range b.Lines {
			impl.ThreeOf(l)
			impl.ThreeText(l)
		}
		checkNewBook(t, b, given, partner, impl.Book{Lines: impl.CloseLines(b.Lines)})
	}
}

// Nothing is kept from call to call: one list, asked by several at once, tells each the same.
func TestOneListOfSeveral(t *testing.T) {
	list := ofTheMost(impl.MaxOpen)
	counted, left, orders := make([]impl.Threes, 64), make([][]impl.OrderLine, 64), make([]int64, 64)
	var group sync.WaitGroup
	for at := range counted {
		group.Go(func() {
			l := list[at]
			counted[at], left[at], orders[at] = impl.ThreeCount(list, l.Partner), impl.CloseLines(list), impl.ThreeOrder(list, l.Partner, l.Ref)
		})
	}
	group.Wait()
	for at := range counted {
		l := list[at]
		same(t, "alike", counted[at], countPlainly(list, l.Partner))
		sameLines(t, "alike", left[at], closePlainly(list))
		same(t, "alike", orders[at], orderPlainly(list, l.Partner, l.Ref))
	}
}
