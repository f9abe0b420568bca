package tests

import (
	"math/big"
	"slices"
	"strings"
	"testing"

	"loop.example/g00096/impl"
)

// stocks gives those that are named, each as an Item and its Hand, in this order.
func stocks(list ...string) []impl.Stock {
	var all []impl.Stock
	for _, text := range list {
		words := strings.Split(text, " ")
		all = append(all, impl.Stock{Item: words[0], Hand: numberRead(words[1])})
	}
	return all
}

// lineOf gives a line of an Item and these four numbers.
func lineOf(partner string, no int64, item string, ordered int64, sent int64, got int64, cut int64) impl.OrderLine {
	return impl.OrderLine{Partner: partner, Ref: "PO-1", No: no, Item: item, Ordered: ordered, Sent: sent, Got: got, Cut: cut}
}

// manyStocks gives n of them, rising.
func manyStocks(n int) []impl.Stock {
	var all []impl.Stock
	for at := range n {
		all = append(all, impl.Stock{Item: "S" + number(int64(1000+2*at)), Hand: int64(at % 7)})
	}
	return all
}

// sampleBook has Items in stock alone, on lines alone, and in both, of three Partners.
func sampleBook() impl.Book {
	return impl.Book{
		Stocks: stocks("BOLT 5", "NUT 0", "SCREW 1000000000"),
		Lines: []impl.OrderLine{
			lineOf("ACME", 1, "NUT", 10, 4, 1, 2),
			lineOf("ACME", 2, "BOLT", 7, 0, 0, 0),
			lineOf("ACME", 3, "NUT", 100, 50, 0, 0),
			lineOf("C-1", 1, "NUT", 3, 0, 0, 0),
			lineOf("C-1", 2, "AXLE", 8, 8, 8, 0),
			lineOf("DOCK", 1, "ZIP", 1000000, 1000000, 0, 0),
		},
	}
}

// bookPlainly holds each Stock to all ahead of it.
func bookPlainly(b impl.Book) bool {
	for at, s := range b.Stocks {
		if !plainName(s.Item) || s.Hand < 0 || s.Hand > 1000000000 {
			return false
		}
		for _, ahead := range b.Stocks[:at] {
			if !(ahead.Item < s.Item) {
				return false
			}
		}
	}
	return len(b.Stocks) < 101 && linesPlainly(b.Lines)
}

func handPlainly(b impl.Book, item string) int64 {
	for _, s := range b.Stocks {
		if bookPlainly(b) && s.Item == item {
			return s.Hand
		}
	}
	return 0
}

// sumsPlainly tells what is open and what is in transit, line by line.
func sumsPlainly(b impl.Book, partner string, item string) (int64, int64) {
	open, transit := int64(0), int64(0)
	if !bookPlainly(b) {
		return 0, 0
	}
	for _, l := range b.Lines {
		if l.Item != item || partner != "" && l.Partner != partner {
			continue
		}
		open += l.Ordered - l.Sent - l.Cut
		transit += l.Sent - l.Got
	}
	return open, transit
}

// movePlainly sums up whole numbers of any size, and puts a new Item ahead of the first one that does
// not stand ahead of it.
func movePlainly(b impl.Book, item string, by int64) impl.Book {
	if len(item) > 20000 {
		return impl.Book{}
	}
	if !bookPlainly(b) || !plainName(item) {
		return b
	}
	at := 0
	for at < len(b.Stocks) && b.Stocks[at].Item < item {
		at++
	}
	behind := impl.Book{Lines: b.Lines, Stocks: append([]impl.Stock{}, b.Stocks...)}
	if at == len(b.Stocks) || b.Stocks[at].Item != item {
		behind.Stocks = append(append(append([]impl.Stock{}, b.Stocks[:at]...), impl.Stock{Item: item}), b.Stocks[at:]...)
	}
	hand := new(big.Int).Add(big.NewInt(behind.Stocks[at].Hand), big.NewInt(by))
	if hand.Sign() < 0 || hand.Cmp(big.NewInt(1000000000)) > 0 || len(behind.Stocks) > 100 {
		return b
	}
	behind.Stocks[at].Hand = hand.Int64()
	return behind
}

// itemsPlainly takes again and again the least one that is above the last.
func itemsPlainly(b impl.Book) []string {
	var all, items []string
	if !bookPlainly(b) {
		return nil
	}
	for _, s := range b.Stocks {
		all = append(all, s.Item)
	}
	for _, l := range b.Lines {
		all = append(all, l.Item)
	}
	for last := ""; ; {
		least := ""
		for _, item := range all {
			if item > last && (least == "" || item < least) {
				least = item
			}
		}
		if least == "" {
			return items
		}
		items = append(items, least)
		last = least
	}
}

// sameBook holds two books against each other; an empty list and none are the same.
func sameBook(t *testing.T, what string, got impl.Book, want impl.Book) {
	t.Helper()
	if !slices.Equal(got.Stocks, want.Stocks) || !slices.Equal(got.Lines, want.Lines) {
		t.Errorf("%s: got %s, want %s", what, short(got), short(want))
	}
}

// checkBook holds what is told of a book, a Partner and an Item to chapter 11.
func checkBook(t *testing.T, b impl.Book, partner string, item string) {
	t.Helper()
	if got, want := impl.BookRight(b), bookPlainly(b); got != want {
		t.Errorf("%s: right is %v, want %v", short(b), got, want)
	}
	if got, want := impl.BookHand(b, item), handPlainly(b, item); got != want {
		t.Errorf("%s: of %.40q there are %d, want %d", short(b), item, got, want)
	}
	open, transit := sumsPlainly(b, partner, item)
	if got := impl.BookOrdered(b, partner, item); got != open {
		t.Errorf("%s: of %.40q are ordered of %.40q %d, want %d", short(b), item, partner, got, open)
	}
	if got := impl.BookTransit(b, partner, item); got != transit {
		t.Errorf("%s: of %.40q are in transit of %.40q %d, want %d", short(b), item, partner, got, transit)
	}
	if got, want := impl.BookItems(b), itemsPlainly(b); !slices.Equal(got, want) {
		t.Errorf("%s: items are %s, want %s", short(b), short(got), short(want))
	}
}

// checkMove holds a move to the plain one, and is promise 30: where it was moved, the way back leaves
// the stock of it, and all else, as it was.
func checkMove(t *testing.T, b impl.Book, item string, by int64) impl.Book {
	t.Helper()
	behind := impl.BookMove(b, item, by)
	want := movePlainly(b, item, by)
	sameBook(t, "moved "+number(by), behind, want)
	if len(item) > impl.MaxBytes {
		return behind
	}
	if impl.BookRight(b) != impl.BookRight(behind) {
		t.Errorf("%s: a move of %.40q by %d makes it %s", short(b), item, by, short(behind))
	}
	if slices.Equal(behind.Stocks, b.Stocks) {
		return behind
	}
	back := impl.BookMove(behind, item, -by)
	same(t, "in and out again", impl.BookHand(back, item), impl.BookHand(b, item))
	sameLines(t, "lines as they were", back.Lines, b.Lines)
	others := slices.DeleteFunc(slices.Clone(back.Stocks), func(s impl.Stock) bool { return s.Item == item })
	were := slices.DeleteFunc(slices.Clone(b.Stocks), func(s impl.Stock) bool { return s.Item == item })
	same(t, "others as they were", slices.Equal(others, were), true)
	if len(behind.Stocks) == len(b.Stocks) {
		sameBook(t, "as it was", back, b)
	} else {
		same(t, "it is there then", slices.Contains(back.Stocks, impl.Stock{Item: item}), true)
	}
	return behind
}

// moves are those around each bound, and such as a sum would wrap round with.
func moves() []int64 {
	most := int64(impl.MaxStock)
	return append(slices.Clone(hugeNumbers), -most-1, -most, -most+1, -7, -6, -5, 0, 1, 2, 5, 6, most-6, most-5, most-4, most-1, most, most+1)
}

// Every list of up to three Stocks, right or not.
func TestEveryShortStock(t *testing.T) {
	few := stocks("A 0", "A 5", "B 0", "B 999999999", "C 1", "C -1", "B 1000000001", "A 1000000000")
	rights := 0
	for _, text := range textsOf("01234567", 3) {
		b := impl.Book{Lines: sampleBook().Lines}
		for at := range len(text) {
			b.Stocks = append(b.Stocks, few[text[at]-'0'])
		}
		if impl.BookRight(b) {
			rights++
		}
		for _, item := range []string{"A", "AB", "B", "C", "D", "NUT", "", "a"} {
			checkBook(t, b, "ACME", item)
			for _, by := range []int64{-6, -5, -1, 0, 1, 2, impl.MaxStock - 5, impl.MaxStock} {
				checkMove(t, b, item, by)
			}
		}
	}
	// None or one of three A, of two B, and of one C.
	same(t, "rights", rights, 4*3*2)
}

// Every list of up to four lines, asked of every Partner and Item.
func TestEveryShortBookOfLines(t *testing.T) {
	few := []impl.OrderLine{
		lineOf("A", 1, "X", 10, 4, 1, 2), lineOf("A", 2, "Y", 20, 20, 5, 0), lineOf("A", 3, "X", 300, 0, 0, 100),
		lineOf("B", 1, "X", 4000, 1000, 1000, 0), lineOf("B", 2, "Y", 50000, 10000, 0, 20000), lineOf("B", 3, "Y", 5, 6, 0, 0),
	}
	rights := 0
	for _, text := range textsOf("012345", 4) {
		b := impl.Book{Stocks: stocks("W 1", "Y 2")}
		for at := range len(text) {
			b.Lines = append(b.Lines, few[text[at]-'0'])
		}
		if impl.BookRight(b) {
			rights++
		}
		for _, partner := range []string{"", "A", "B", "C", "X", "a"} {
			for _, item := range []string{"X", "Y", "W", "Z", "", "A"} {
				checkBook(t, b, partner, item)
			}
		}
		checkMove(t, b, "X", 3)
		checkMove(t, b, "Y", -2)
	}
	// Each set of up to four of the five right ones, in its one order.
	same(t, "rights", rights, 1+5+10+10+5)
}

func TestSampleBook(t *testing.T) {
	b := sampleBook()
	same(t, "right", impl.BookRight(b), true)
	same(t, "none is right", impl.BookRight(impl.Book{}), true)
	same(t, "empty lists are right", impl.BookRight(impl.Book{Stocks: []impl.Stock{}, Lines: []impl.OrderLine{}}), true)
	same(t, "items", impl.BookItems(b), []string{"AXLE", "BOLT", "NUT", "SCREW", "ZIP"})
	for _, want := range []struct {
		partner, item       string
		hand, open, transit int64
	}{
		{"", "NUT", 0, 57, 53}, {"ACME", "NUT", 0, 54, 53}, {"C-1", "NUT", 0, 3, 0}, {"DOCK", "NUT", 0, 0, 0},
		{"", "BOLT", 5, 7, 0}, {"ACME", "BOLT", 5, 7, 0}, {"C-1", "BOLT", 5, 0, 0},
		{"", "AXLE", 0, 0, 0}, {"", "ZIP", 0, 0, 1000000}, {"", "SCREW", 1000000000, 0, 0},
		{"", "", 0, 0, 0}, {"NUT", "NUT", 0, 0, 0}, {"ACM", "NUT", 0, 0, 0}, {"ACME", "NU", 0, 0, 0},
	} {
		checkBook(t, b, want.partner, want.item)
		got := []int64{impl.BookHand(b, want.item), impl.BookOrdered(b, want.partner, want.item), impl.BookTransit(b, want.partner, want.item)}
		same(t, want.partner+" "+want.item, got, []int64{want.hand, want.open, want.transit})
	}
	same(t, "in its place", checkMove(t, b, "CLIP", 3).Stocks, stocks("BOLT 5", "CLIP 3", "NUT 0", "SCREW 1000000000"))
	same(t, "ahead of all", checkMove(t, b, "AXLE", 3).Stocks, stocks("AXLE 3", "BOLT 5", "NUT 0", "SCREW 1000000000"))
	same(t, "behind all", checkMove(t, b, "ZIP", 3).Stocks, stocks("BOLT 5", "NUT 0", "SCREW 1000000000", "ZIP 3"))
	same(t, "a new one by nought", checkMove(t, b, "ZIP", 0).Stocks, stocks("BOLT 5", "NUT 0", "SCREW 1000000000", "ZIP 0"))
	same(t, "more", checkMove(t, b, "BOLT", 2).Stocks, stocks("BOLT 7", "NUT 0", "SCREW 1000000000"))
	same(t, "all out", checkMove(t, b, "BOLT", -5).Stocks, stocks("BOLT 0", "NUT 0", "SCREW 1000000000"))
	for _, none := range []struct {
		item string
		by   int64
	}{{"BOLT", -6}, {"NUT", -1}, {"ZIP", -1}, {"SCREW", 1}, {"BOLT", impl.MaxStock - 4}, {"ZIP", impl.MaxStock + 1}, {"", 1}, {"zip", 1}} {
		sameBook(t, "as it is", checkMove(t, b, none.item, none.by), b)
	}
	same(t, "none of nothing", len(impl.BookItems(impl.Book{})), 0)
	same(t, "into nothing", checkMove(t, impl.Book{}, "BOLT", impl.MaxStock).Stocks, stocks("BOLT 1000000000"))
}

// Promise 30, over moves of every size and Hands at both bounds.
func TestMovesInAndOut(t *testing.T) {
	for _, hand := range []int64{0, 1, 5, 6, impl.MaxStock / 2, impl.MaxStock - 1, impl.MaxStock} {
		b := sampleBook()
		b.Stocks[0].Hand = hand
		for _, by := range append(moves(), -hand, -hand-1, impl.MaxStock-hand, impl.MaxStock-hand+1) {
			got := checkMove(t, b, "BOLT", by)
			if by >= -hand && by <= impl.MaxStock-hand {
				same(t, "moved", impl.BookHand(got, "BOLT"), hand+by)
			} else {
				sameBook(t, "as it is", got, b)
			}
		}
	}
	for _, by := range moves() {
		for _, item := range []string{"AXLE", "NUT", "SCREW", "A", "ZZ"} {
			checkMove(t, sampleBook(), item, by)
			checkMove(t, impl.Book{}, item, by)
		}
	}
}

// Each run of up to five moves of two Items, and then all that was moved the other way round.
func TestRunsOfMoves(t *testing.T) {
	for _, text := range textsOf("012345", 5) {
		b := sampleBook()
		type step struct {
			item string
			by   int64
		}
		var done []step
		for at := range len(text) {
			s := step{[]string{"BOLT", "CLIP"}[(text[at]-'0')%2], []int64{2, -1, -4}[(text[at]-'0')/2]}
			hand := impl.BookHand(b, s.item)
			b = impl.BookMove(b, s.item, s.by)
			if impl.BookHand(b, s.item) != hand {
				done = append(done, s)
			} else {
				same(t, "refused", hand+s.by < 0, true)
			}
		}
		slices.Reverse(done)
		for _, s := range done {
			b = impl.BookMove(b, s.item, -s.by)
		}
		b.Stocks = slices.DeleteFunc(b.Stocks, func(s impl.Stock) bool { return s == impl.Stock{Item: "CLIP"} })
		sameBook(t, "as it was", b, sampleBook())
	}
}

// wrongBooks gives such as are not right by one thing each.
func wrongBooks() []impl.Book {
	var all []impl.Book
	with := func(change func(b *impl.Book)) {
		b := sampleBook()
		change(&b)
		all = append(all, b)
	}
	for _, name := range wrongNames {
		with(func(b *impl.Book) { b.Stocks = []impl.Stock{{Item: name, Hand: 1}} })
		with(func(b *impl.Book) { b.Stocks = []impl.Stock{{Item: "A", Hand: 1}, {Item: name, Hand: 1}} })
		with(func(b *impl.Book) { b.Stocks = []impl.Stock{{Item: name, Hand: 1}, {Item: "ZZ", Hand: 1}} })
		with(func(b *impl.Book) { b.Lines[2].Item = name })
		with(func(b *impl.Book) { b.Lines[0].Partner = name })
	}
	for _, hand := range append(slices.Clone(hugeNumbers), impl.MaxStock+1) {
		for at := range 3 {
			with(func(b *impl.Book) { b.Stocks[at].Hand = hand })
		}
	}
	for _, list := range [][]impl.Stock{
		stocks("BOLT 5", "BOLT 5"), stocks("BOLT 5", "BOLT 6"), stocks("NUT 5", "BOLT 5"),
		stocks("AB 1", "A 1"), stocks("A 1", "B 1", "A 1"), stocks("A 1", "B 1", "B 1"), stocks("A 1", "A 1", "B 1"),
	} {
		with(func(b *impl.Book) { b.Stocks = list })
	}
	with(func(b *impl.Book) { b.Lines[0], b.Lines[1] = b.Lines[1], b.Lines[0] })
	with(func(b *impl.Book) { b.Lines[1] = b.Lines[0] })
	with(func(b *impl.Book) { b.Lines[5].Sent++ })
	with(func(b *impl.Book) { b.Lines[3].Got = 1 })
	with(func(b *impl.Book) { b.Stocks = manyStocks(impl.MaxItems + 1) })
	with(func(b *impl.Book) { b.Lines = manyLines(impl.MaxOpen + 1) })
	return all
}

// Of a book that is not right nothing is told, and nothing moves.
func TestWrongBooks(t *testing.T) {
	for _, b := range wrongBooks() {
		same(t, "wrong", impl.BookRight(b), false)
		for _, item := range []string{"A", "BOLT", "NUT", "SCREW", "ZIP", "S1000", ""} {
			for _, partner := range []string{"", "ACME", "C-1", "NONE"} {
				checkBook(t, b, partner, item)
				told := []int64{impl.BookHand(b, item), impl.BookOrdered(b, partner, item), impl.BookTransit(b, partner, item)}
				same(t, "noughts", told, []int64{0, 0, 0})
			}
			for _, by := range []int64{-1, 0, 1} {
				sameBook(t, "as it is", impl.BookMove(b, item, by), b)
			}
		}
		same(t, "no items", len(impl.BookItems(b)), 0)
	}
}

func TestNamesOfItems(t *testing.T) {
	for _, name := range append(slices.Clone(wrongNames), "A", "Z", "A-0", "ABCDEFGHIJKL", "A-----------") {
		b := impl.Book{Stocks: []impl.Stock{{Item: name, Hand: 2}}}
		same(t, "right", impl.BookRight(b), plainName(name))
		for _, book := range []impl.Book{b, sampleBook(), {}} {
			checkBook(t, book, "", name)
			checkBook(t, book, name, "NUT")
			for _, by := range []int64{-2, 0, 4} {
				checkMove(t, book, name, by)
			}
		}
		if !plainName(name) && len(name) <= impl.MaxBytes {
			sameBook(t, "as it is", impl.BookMove(sampleBook(), name, 4), sampleBook())
		}
	}
}

func TestTheMostItems(t *testing.T) {
	full := impl.Book{Stocks: manyStocks(impl.MaxItems), Lines: manyLines(impl.MaxOpen)}
	for at := range full.Lines {
		full.Lines[at].Item = "L" + number(int64(2000-at))
	}
	same(t, "full", impl.BookRight(full), true)
	same(t, "all items", len(impl.BookItems(full)), impl.MaxItems+impl.MaxOpen)
	checkBook(t, full, "", "L1900")
	for at, s := range full.Stocks {
		same(t, "hand", impl.BookHand(full, s.Item), int64(at%7))
		checkMove(t, full, s.Item, 3)
		same(t, "it is there already", impl.BookHand(impl.BookMove(full, s.Item, 3), s.Item), int64(at%7+3))
	}
	for _, item := range []string{"A", "S1001", "Z", "L1900"} {
		for _, by := range []int64{0, 1, -1} {
			sameBook(t, "no place", checkMove(t, full, item, by), full)
		}
	}
	for _, at := range []int{0, 1, 50, 98, 99} {
		less := impl.Book{Stocks: slices.Delete(slices.Clone(full.Stocks), at, at+1), Lines: full.Lines}
		sameBook(t, "the last place", checkMove(t, less, full.Stocks[at].Item, full.Stocks[at].Hand), full)
		same(t, "the last place", len(checkMove(t, less, "S1001", 1).Stocks), impl.MaxItems)
	}
	// Stocks and Lines are fields, so that the limit of a list that is handed in does not hold for them.
	for _, n := range []int{101, 102, 400, 401, 1000} {
		many := impl.Book{Stocks: manyStocks(n), Lines: manyLines(2)}
		same(t, "too many", impl.BookRight(many), false)
		checkBook(t, many, "", "BOLT")
		sameBook(t, "as it is", checkMove(t, many, "S1000", 1), many)
		many = impl.Book{Stocks: manyStocks(2), Lines: manyLines(2 * n)}
		same(t, "too many lines", impl.BookRight(many), false)
		checkBook(t, many, "", "BOLT")
		sameBook(t, "as it is", checkMove(t, many, "S1000", 1), many)
	}
}

func TestTheGreatestSums(t *testing.T) {
	b := impl.Book{Lines: manyLines(impl.MaxOpen)}
	for at := range b.Lines {
		b.Lines[at].Ordered, b.Lines[at].Sent = impl.MaxQty, 0
	}
	same(t, "ordered", impl.BookOrdered(b, "", "BOLT"), int64(impl.MaxOpen*impl.MaxQty))
	same(t, "none in transit", impl.BookTransit(b, "", "BOLT"), int64(0))
	for at := range b.Lines {
		b.Lines[at].Sent = impl.MaxQty
	}
	same(t, "none ordered", impl.BookOrdered(b, "", "BOLT"), int64(0))
	same(t, "in transit", impl.BookTransit(b, "", "BOLT"), int64(impl.MaxOpen*impl.MaxQty))
	checkBook(t, b, "C-1", "BOLT")
	// Each partner's sum is a part of all.
	sum := int64(0)
	for _, partner := range []string{"ACME", "C-1", "DOCK"} {
		sum += impl.BookTransit(b, partner, "BOLT")
	}
	same(t, "parts", sum, impl.BookTransit(b, "", "BOLT"))
}

// A text that is handed in as such has a limit; a field of a book is none.
func TestTextsAskedOfBooks(t *testing.T) {
	long := strings.Repeat("A", impl.MaxBytes)
	wrong := sampleBook()
	wrong.Stocks[1].Item = long + "A"
	for _, b := range []impl.Book{sampleBook(), {}, wrong} {
		for _, text := range []string{"", "x", "A B", "Ä\xff", "ABCDEFGHIJKLM", long, long + "A"} {
			checkBook(t, b, text, "NUT")
			checkBook(t, b, "", text)
			checkBook(t, b, text, text)
			checkMove(t, b, text, 1)
		}
		sameBook(t, "as it is", impl.BookMove(b, long, 1), b)
		sameBook(t, "refused", impl.BookMove(b, long+"A", 1), impl.Book{})
		sameBook(t, "refused", impl.BookMove(b, long+"A", -1), impl.Book{})
	}
	sameBook(t, "as it is, with a long field", impl.BookMove(wrong, "NUT", 1), wrong)
}

// sharesStock: lies a text of got within one of given?
func sharesStock(got []string, given []impl.Stock) bool {
	for _, text := range got {
		for _, s := range given {
			if within(text, s.Item) {
				return true
			}
		}
	}
	return false
}

// freshBook gives a book like b, with places behind each list that nobody is to write to.
func freshBook(b impl.Book) impl.Book {
	behind := impl.Book{Stocks: make([]impl.Stock, 0, 300), Lines: make([]impl.OrderLine, 0, 300)}
	for _, s := range b.Stocks {
		behind.Stocks = append(behind.Stocks, impl.Stock{Item: strings.Clone(s.Item), Hand: s.Hand})
	}
	for _, l := range b.Lines {
		l.Partner, l.Ref, l.Item = strings.Clone(l.Partner), strings.Clone(l.Ref), strings.Clone(l.Item)
		behind.Lines = append(behind.Lines, l)
	}
	return behind
}

// checkNewBook: shares an answer no memory with b and item, and is b as given?
func checkNewBook(t *testing.T, b impl.Book, given impl.Book, item string, answer impl.Book) {
	t.Helper()
	var items []string
	for _, s := range answer.Stocks {
		items = append(items, s.Item)
		same(t, "shares with the item", within(s.Item, item), false)
		same(t, "shares with a line", sharesLine([]impl.OrderLine{{Item: s.Item}}, b.Lines), false)
	}
	same(t, "shared stocks", sharesStock(items, b.Stocks), false)
	same(t, "shared lines", sharesLine(answer.Lines, b.Lines), false)
	for at := range answer.Stocks {
		answer.Stocks[at] = impl.Stock{Hand: -7}
	}
	for at := range answer.Lines {
		answer.Lines[at] = impl.OrderLine{No: -7}
	}
	_, _ = append(answer.Stocks, impl.Stock{Hand: 1}), append(answer.Lines, impl.OrderLine{No: 1})
	sameBook(t, "not changed", b, given)
	sameBook(t, "nothing behind it",
		impl.Book{Stocks: b.Stocks[:300][len(b.Stocks):], Lines: b.Lines[:300][len(b.Lines):]},
		impl.Book{Stocks: make([]impl.Stock, 300-len(b.Stocks)), Lines: make([]impl.OrderLine, 300-len(b.Lines))})
}

func TestBooksAreNewMemory(t *testing.T) {
	full := impl.Book{Stocks: manyStocks(impl.MaxItems), Lines: manyLines(20)}
	wrong := sampleBook()
	wrong.Stocks[0], wrong.Stocks[1] = wrong.Stocks[1], wrong.Stocks[0]
	for _, given := range []impl.Book{sampleBook(), full, wrong, {}} {
		b := freshBook(given)
		for _, name := range []string{"BOLT", "AXLE", "CLIP", "ZZ", "S1000", "x"} {
			for _, by := range []int64{-9, 0, 3} {
				item := strings.Clone(name)
				checkNewBook(t, b, given, item, impl.BookMove(b, item, by))
			}
		}
		items := impl.BookItems(b)
		same(t, "shared items", sharesStock(items, b.Stocks), false)
		for at, item := range items {
			same(t, "shared with a line", sharesLine([]impl.OrderLine{{Item: item}}, b.Lines), false)
			items[at] = ""
		}
		_ = append(items, "A")
		sameBook(t, "not changed", b, given)
		impl.BookRight(b)
		impl.BookHand(b, "BOLT")
		impl.BookOrdered(b, "", "NUT")
		impl.BookTransit(b, "", "NUT")
		sameBook(t, "not changed", b, given)
	}
}
