package tests

import (
	"slices"
	"strings"
	"testing"

	"loop.example/g00096/impl"
)

// outs gives Outs told as "ACME 1 0 2": the Partner, the Number, the Tries and the Due; each has a Text of
// its own.
func outs(list ...string) []impl.Out {
	var all []impl.Out
	for _, text := range list {
		words := strings.Split(text, " ")
		all = append(all, impl.Out{Partner: words[0], Number: numberRead(words[1]), Text: "to " + words[0] + " " + words[1], Tries: numberRead(words[2]), Due: numberRead(words[3])})
	}
	return all
}

// manyOuts gives n of them, rising, of three Partners, of all Tries and of Dues from 0 to 6.
func manyOuts(n int) []impl.Out {
	var all []impl.Out
	for at := range n {
		partner := []string{"ACME", "C-1", "DOCK"}[at*3/n]
		all = append(all, outs(partner+" "+number(int64(95+at))+" "+number(int64(at%6))+" "+number(int64(at%7)))...)
	}
	return all
}

func dayPlainly(day int64) bool { return day > -1 && day < 100001 }

// outPlainly holds an Out to what chapter 13 says of one in a right outbox.
func outPlainly(o impl.Out) bool {
	return plainName(o.Partner) && controlPlainly(o.Number) && len(o.Text) > 0 && len(o.Text) < 20001 &&
		o.Tries > -1 && o.Tries < 6 && dayPlainly(o.Due)
}

// outAhead: stands a ahead of b, by Partner, then by Number?
func outAhead(a impl.Out, b impl.Out) bool {
	if a.Partner != b.Partner {
		return a.Partner < b.Partner
	}
	return a.Number < b.Number
}

// outboxPlainly holds each one to all ahead of it.
func outboxPlainly(list []impl.Out) bool {
	if len(list) > 60 {
		return false
	}
	for at, o := range list {
		if !outPlainly(o) {
			return false
		}
		for _, ahead := range list[:at] {
			if !outAhead(ahead, o) {
				return false
			}
		}
	}
	return true
}

// placePlainly tells the place of the Out of that Partner and Number, or -1.
func placePlainly(list []impl.Out, partner string, n int64) int {
	return slices.IndexFunc(list, func(o impl.Out) bool { return o.Partner == partner && o.Number == n })
}

func outPutPlainly(list []impl.Out, o impl.Out) impl.OutboxOut {
	if len(list) > 400 {
		return impl.OutboxOut{Code: 2}
	}
	if !outboxPlainly(list) || !outPlainly(o) {
		return impl.OutboxOut{Code: 1}
	}
	if placePlainly(list, o.Partner, o.Number) >= 0 {
		return impl.OutboxOut{Code: 11}
	}
	if len(list) > 59 {
		return impl.OutboxOut{Code: 12}
	}
	var behind []impl.Out
	at := 0
	for ; at < len(list) && outAhead(list[at], o); at++ {
		behind = append(behind, list[at])
	}
	return impl.OutboxOut{List: append(append(behind, o), list[at:]...)}
}

// tickPlainly waits day by day, three for each try, but not beyond the last day.
func tickPlainly(list []impl.Out, day int64) impl.OutboxOut {
	if len(list) > 400 {
		return impl.OutboxOut{Code: 2}
	}
	if !outboxPlainly(list) || !dayPlainly(day) {
		return impl.OutboxOut{Code: 1}
	}
	var out impl.OutboxOut
	for _, o := range list {
		switch {
		case o.Due > day:
			out.List = append(out.List, o)
		case o.Tries == 5:
			out.Lost = append(out.Lost, o)
		default:
			out.Sent = append(out.Sent, impl.Sent{Partner: o.Partner, Number: o.Number, Text: o.Text})
			o.Tries++
			o.Due = day
			for wait := o.Tries + o.Tries + o.Tries; wait > 0 && o.Due < 100000; wait-- {
				o.Due++
			}
			out.List = append(out.List, o)
		}
	}
	return out
}

func heardPlainly(list []impl.Out, partner string, n int64) impl.OutboxOut {
	if len(list) > 400 || len(partner) > 20000 {
		return impl.OutboxOut{Code: 2}
	}
	if !outboxPlainly(list) {
		return impl.OutboxOut{Code: 1}
	}
	at := placePlainly(list, partner, n)
	if at < 0 {
		return impl.OutboxOut{Code: 6}
	}
	return impl.OutboxOut{List: slices.Delete(slices.Clone(list), at, at+1)}
}

// outRunPlainly ticks an outbox of o alone.
func outRunPlainly(o impl.Out, days []int64) []int64 {
	if len(days) > 400 || !outPlainly(o) {
		return nil
	}
	var sent []int64
	list := []impl.Out{o}
	for at, day := range days {
		if !dayPlainly(day) || at > 0 && day <= days[at-1] {
			return nil
		}
		out := tickPlainly(list, day)
		list = out.List
		if len(out.Sent) > 0 {
			sent = append(sent, day)
		}
	}
	return sent
}

// sameOutbox holds two answers against each other; an empty list and none are the same.
func sameOutbox(t *testing.T, what string, got impl.OutboxOut, want impl.OutboxOut) {
	t.Helper()
	if !slices.Equal(got.List, want.List) || !slices.Equal(got.Sent, want.Sent) || !slices.Equal(got.Lost, want.Lost) || got.Code != want.Code {
		t.Errorf("%s: got %s, want %s", what, short(got), short(want))
	}
}

// sameOuts holds two lists against each other; an empty one and none are the same.
func sameOuts(t *testing.T, what string, got []impl.Out, want []impl.Out) {
	t.Helper()
	sameOutbox(t, what, impl.OutboxOut{List: got}, impl.OutboxOut{List: want})
}

// sameDays holds two lists of days against each other; an empty one and none are the same.
func sameDays(t *testing.T, what string, got []int64, want []int64) {
	t.Helper()
	if !slices.Equal(got, want) {
		t.Errorf("%s: got %s, want %s", what, short(got), short(want))
	}
}

// refusedWith: there is this code, and nothing beside it.
func refusedWith(t *testing.T, what string, got impl.OutboxOut, code int64) {
	t.Helper()
	if got.List != nil || got.Sent != nil || got.Lost != nil || got.Code != code {
		t.Errorf("%s: got %s, want the code %d alone", what, short(got), code)
	}
}

// checkOut puts o into list, and takes it out again.
func checkOut(t *testing.T, list []impl.Out, o impl.Out) impl.OutboxOut {
	t.Helper()
	given := slices.Clone(list)
	out := impl.OutboxPut(list, o)
	sameOutbox(t, "put", out, outPutPlainly(list, o))
	if out.Code == impl.OK {
		same(t, "right with it", impl.OutboxRight(out.List), true)
		sameOutbox(t, "out again", impl.OutboxHeard(out.List, o.Partner, o.Number), impl.OutboxOut{List: list})
		refusedWith(t, "not once more", impl.OutboxPut(out.List, o), impl.ErrThere)
	}
	sameOuts(t, "not changed", list, given)
	return out
}

func checkHeard(t *testing.T, list []impl.Out, partner string, n int64) impl.OutboxOut {
	t.Helper()
	given := slices.Clone(list)
	out := impl.OutboxHeard(list, partner, n)
	sameOutbox(t, "heard", out, heardPlainly(list, partner, n))
	if out.Code == impl.OK {
		same(t, "right without it", impl.OutboxRight(out.List), true)
		refusedWith(t, "not once more", impl.OutboxHeard(out.List, partner, n), impl.ErrNone)
	}
	sameOuts(t, "not changed", list, given)
	return out
}

// checkTick holds a day's tick to promise 16, Out by Out: each stays, or was tried often enough; what is
// sent waits till later.
func checkTick(t *testing.T, list []impl.Out, day int64) impl.OutboxOut {
	t.Helper()
	given := slices.Clone(list)
	out := impl.OutboxTick(list, day)
	sameOutbox(t, "tick", out, tickPlainly(list, day))
	sameOuts(t, "not changed", list, given)
	if out.Code != impl.OK {
		return out
	}
	same(t, "right behind it", impl.OutboxRight(out.List), true)
	same(t, "each is there or lost", len(out.List)+len(out.Lost), len(list))
	for _, o := range list {
		sent := slices.Contains(out.Sent, impl.Sent{Partner: o.Partner, Number: o.Number, Text: o.Text})
		at := placePlainly(out.List, o.Partner, o.Number)
		if at < 0 {
			same(t, "lost", slices.Contains(out.Lost, o) && o.Tries == impl.MaxTries && o.Due <= day && !sent, true)
			continue
		}
		behind := out.List[at]
		same(t, "its text", behind.Text == o.Text, true)
		if !sent {
			same(t, "waits as it is", behind == o && o.Due > day, true)
			continue
		}
		same(t, "one try more", behind.Tries, o.Tries+1)
		same(t, "later", behind.Due > day && behind.Due > o.Due || day == impl.MaxDay && behind.Due == day, true)
	}
	return out
}

// Promise 16: one that nobody hears goes out five times, waits longer each time, and is lost then.
func TestWhatNobodyHearsIsSentLaterEachTime(t *testing.T) {
	for tries, want := range [][]int64{{2, 5, 11, 20, 32}, {2, 8, 17, 29}, {2, 11, 23}, {2, 14}, {2}, {}} {
		lost := []int64{47, 44, 38, 29, 17, 2}[tries]
		list := outs("ACME 1 " + number(int64(tries)) + " 2")
		last := list[0]
		var sent, days []int64
		for day := int64(0); day <= 60; day++ {
			days = append(days, day)
			out := checkTick(t, list, day)
			if len(out.Sent) > 0 {
				sent = append(sent, day)
				last = out.List[0]
			}
			same(t, "there", len(out.List) == 1, day < lost)
			if day == lost {
				sameOuts(t, "lost as it was", out.Lost, []impl.Out{last})
			} else {
				sameOuts(t, "not lost", out.Lost, nil)
			}
			list = out.List
		}
		sameDays(t, "sent", sent, want)
		sameDays(t, "a run", impl.OutboxRun(outs("ACME 1 " + number(int64(tries)) + " 2")[0], days), want)
	}
}

// Where days are left out, what is due in between goes out on the next one, and waits from there on.
func TestWhatIsDueGoesOutOnTheNextDay(t *testing.T) {
	o := outs("ACME 1 0 2")[0]
	for _, c := range []struct{ days, want []int64 }{
		{[]int64{1}, nil}, {[]int64{2}, []int64{2}}, {[]int64{50}, []int64{50}}, {[]int64{0, 1, 2, 3, 4}, []int64{2}},
		{[]int64{1, 2, 3, 4, 5, 6, 11, 12}, []int64{2, 5, 11}}, {[]int64{4, 5, 6, 7}, []int64{4, 7}}, {[]int64{4, 8, 13, 14}, []int64{4, 8, 14}},
		{[]int64{10, 20, 30, 40, 50, 60, 70}, []int64{10, 20, 30, 40, 60}}, {[]int64{100, 200, 300, 400, 500, 600, 700}, []int64{100, 200, 300, 400, 500}},
		{[]int64{2, 4, 6, 12, 20, 21, 32, 33, 44, 45, 46, 47, 48, 49, 100000}, []int64{2, 6, 12, 21, 33}}, {[]int64{100000}, []int64{100000}}, {nil, nil},
	} {
		sameDays(t, "run", impl.OutboxRun(o, c.days), c.want)
		sameDays(t, "plainly", outRunPlainly(o, c.days), c.want)
	}
}

// Nothing is due beyond the last day, on which it may be sent day by day, but no more often than at all.
func TestTheLastDay(t *testing.T) {
	for due := int64(impl.MaxDay - 20); due <= impl.MaxDay; due++ {
		for tries := range int64(impl.MaxTries + 1) {
			o := outs("ACME 1 " + number(tries) + " " + number(due))[0]
			for day := int64(impl.MaxDay - 20); day <= impl.MaxDay; day++ {
				checkTick(t, []impl.Out{o}, day)
				days := []int64{day, day + 1}
				sameDays(t, "run", impl.OutboxRun(o, days), outRunPlainly(o, days))
			}
			list := []impl.Out{o}
			for n := tries; n < impl.MaxTries; n++ {
				out := checkTick(t, list, impl.MaxDay)
				sameOutbox(t, "sent", out, impl.OutboxOut{List: outs("ACME 1 " + number(n+1) + " 100000"), Sent: []impl.Sent{{Partner: "ACME", Number: 1, Text: o.Text}}})
				list = out.List
			}
			sameOutbox(t, "lost", checkTick(t, list, impl.MaxDay), impl.OutboxOut{Lost: list})
		}
	}
	same(t, "the very last", checkTick(t, outs("ACME 1 4 100000"), 100000).List, outs("ACME 1 5 100000"))
	same(t, "up to it", checkTick(t, outs("ACME 1 4 99985"), 99985).List, outs("ACME 1 5 100000"))
	same(t, "one less", checkTick(t, outs("ACME 1 4 99984"), 99984).List, outs("ACME 1 5 99999"))
	same(t, "one more", checkTick(t, outs("ACME 1 4 99986"), 99986).List, outs("ACME 1 5 100000"))
	sameDays(t, "run", impl.OutboxRun(outs("ACME 1 0 99998")[0], []int64{99997, 99998, 99999, 100000}), []int64{99998, 100000})
}

// Every Out of few days and all tries, alone, on every day around it.
func TestEveryShortTick(t *testing.T) {
	for tries := range int64(impl.MaxTries + 1) {
		for due := range int64(6) {
			for day := range int64(8) {
				list := outs("ACME 1 " + number(tries) + " " + number(due))
				out := checkTick(t, list, day)
				same(t, "sent", len(out.Sent) == 1, due <= day && tries < 5)
				same(t, "lost", len(out.Lost) == 1, due <= day && tries == 5)
			}
		}
	}
	sameOutbox(t, "nothing", impl.OutboxTick(nil, 5), impl.OutboxOut{})
	sameOutbox(t, "nothing", impl.OutboxTick([]impl.Out{}, impl.MaxDay), impl.OutboxOut{})
}

// Of several, each goes its own way, and what is told of them stands in their order.
func TestTicksOfSeveral(t *testing.T) {
	list := outs("A 1 5 3", "A 2 0 3", "A 10 2 4", "A-1 1 4 0", "B 1 5 4", "B 7 5 5", "C 3 0 9", "C 4 5 1")
	want := impl.OutboxOut{
		List: outs("A 2 1 7", "A 10 3 13", "A-1 1 5 19", "B 7 5 5", "C 3 0 9"),
		Sent: []impl.Sent{{Partner: "A", Number: 2, Text: "to A 2"}, {Partner: "A", Number: 10, Text: "to A 10"}, {Partner: "A-1", Number: 1, Text: "to A-1 1"}},
		Lost: outs("A 1 5 3", "B 1 5 4", "C 4 5 1"),
	}
	sameOutbox(t, "as told", checkTick(t, list, 4), want)
	for _, size := range []int{1, 2, 7, 42, 59, 60} {
		many := manyOuts(size)
		for day := range int64(9) {
			out := checkTick(t, many, day)
			for range 20 {
				sameOutbox(t, "each time alike", impl.OutboxTick(many, day), out)
			}
		}
		for day := range int64(80) {
			many = checkTick(t, many, day).List
		}
		sameOuts(t, "all are lost", many, nil)
	}
}

// outWalk is an outbox on its way, with what was noted beside it.
type outWalk struct {
	list []impl.Out
	day  int64
	sent [3]int64
	// gone says of each Out whether it was heard or lost.
	gone [3]bool
}

// outKey is by what an Out is heard.
type outKey struct {
	partner string
	number  int64
}

// keysOfWalk are those of the Outs of a walk, and of one that is never there.
var keysOfWalk = []outKey{{"ACME", 1}, {"ACME", 2}, {"DOCK", 1}, {"DOCK", 2}}

// step ticks on the same day or a later one, or hears one.
func (w outWalk) step(t *testing.T, kind int) outWalk {
	t.Helper()
	if kind < 3 {
		w.day += []int64{0, 2, 20}[kind]
		out := checkTick(t, w.list, w.day)
		for _, s := range out.Sent {
			w.sent[slices.Index(keysOfWalk, outKey{s.Partner, s.Number})]++
		}
		for at, k := range keysOfWalk[:3] {
			w.gone[at] = w.gone[at] || placePlainly(out.Lost, k.partner, k.number) >= 0
		}
		w.list = out.List
		return w
	}
	at := kind - 3
	out := checkHeard(t, w.list, keysOfWalk[at].partner, keysOfWalk[at].number)
	same(t, "found", out.Code == impl.OK, at < 3 && !w.gone[at%3])
	if out.Code == impl.OK {
		w.list, w.gone[at] = out.List, true
	}
	return w
}

// Promise 16 along every way: what is neither heard nor lost is there, with as many tries as it was sent.
func TestWhatIsInAnOutboxStaysThere(t *testing.T) {
	first := [3]int64{0, 3, 4}
	lost := 0
	var walk func(w outWalk, deep int)
	walk = func(w outWalk, deep int) {
		for at, k := range keysOfWalk[:3] {
			place := placePlainly(w.list, k.partner, k.number)
			same(t, "there", place >= 0, !w.gone[at])
			if place >= 0 {
				same(t, "tries", w.list[place].Tries, first[at]+w.sent[at])
			}
			if w.sent[at]+first[at] == impl.MaxTries && w.gone[at] {
				lost++
			}
		}
		for kind := 0; kind < 7 && deep > 0; kind++ {
			walk(w.step(t, kind), deep-1)
		}
	}
	walk(outWalk{list: outs("ACME 1 0 0", "ACME 2 3 1", "DOCK 1 4 2")}, 5)
	same(t, "some were lost", lost > 100, true)
}

// A run is what ticks one by one tell of the Out alone, over all rising days of some.
func TestEveryShortRunOfDays(t *testing.T) {
	from := []int64{0, 1, 2, 4, 5, 7, 11, 12, 21, 40}
	for set := range 1 << len(from) {
		var days []int64
		for at, day := range from {
			if set>>at&1 == 1 {
				days = append(days, day)
			}
		}
		for _, key := range []string{"0 0", "0 2", "1 1", "2 5", "3 0", "4 12", "5 0", "0 41", "4 100000"} {
			o := outs("ACME 1 " + key)[0]
			given := slices.Clone(days)
			sent, list := []int64(nil), []impl.Out{o}
			for _, day := range days {
				out := impl.OutboxTick(list, day)
				list = out.List
				if len(out.Sent) > 0 {
					sent = append(sent, day)
				}
			}
			sameDays(t, "by ticks", impl.OutboxRun(o, days), sent)
			sameDays(t, "plainly", sent, outRunPlainly(o, days))
			sameDays(t, "not changed", days, given)
		}
	}
}

func TestRunsOfWrongDays(t *testing.T) {
	o := outs("ACME 1 0 0")[0]
	wrong := [][]int64{{3, 3}, {3, 2}, {0, 0}, {1, 2, 2}, {1, 2, 1}, {1, 5, 4, 9}, {5, 4, 3}, {-1}, {-1, 0}, {-1, 5}, {5, -1}, {100001}, {5, 100001}, {100000, 100001}, {100000, 100000}, {1, 100000, 2}}
	for _, day := range hugeNumbers {
		wrong = append(wrong, []int64{day}, []int64{5, day}, []int64{day, 5})
	}
	for _, days := range wrong {
		sameDays(t, "wrong days", impl.OutboxRun(o, days), nil)
	}
	for _, days := range [][]int64{{0}, {100000}, {0, 100000}, {99999, 100000}, {0, 1}} {
		sameDays(t, "right days", impl.OutboxRun(o, days), outRunPlainly(o, days))
		same(t, "some are sent", len(impl.OutboxRun(o, days)) > 0, true)
	}
	var most []int64
	for day := range int64(impl.MaxList) {
		most = append(most, day*250)
	}
	late := outs("ACME 1 3 99750")[0]
	sameDays(t, "the most days", impl.OutboxRun(o, most), []int64{0, 250, 500, 750, 1000})
	sameDays(t, "the last of them", impl.OutboxRun(late, most), []int64{99750})
	sameDays(t, "one too many", impl.OutboxRun(o, append(most, 100000)), nil)
	sameDays(t, "one less", impl.OutboxRun(late, append(most[1:], 100000)), []int64{99750, 100000})
	most[399] = most[398]
	sameDays(t, "the last one does not rise", impl.OutboxRun(o, most), nil)
	for _, wrong := range wrongOuts() {
		sameDays(t, "wrong Out", impl.OutboxRun(wrong, []int64{0, 5, 100000}), nil)
	}
	for _, right := range edgeOuts() {
		sameDays(t, "right Out", impl.OutboxRun(right, []int64{0, 5, 100000}), outRunPlainly(right, []int64{0, 5, 100000}))
		same(t, "is sent", len(impl.OutboxRun(right, []int64{100000})) == 1, right.Tries < 5)
	}
}

// edgeOuts are right, each at an edge of what may stand in an outbox.
func edgeOuts() []impl.Out {
	long := strings.Repeat("a", impl.MaxBytes)
	return []impl.Out{
		{Partner: "A", Number: 1, Text: "x"}, {Partner: "Z-9ABCDEFGHI", Number: 999999, Text: "x", Tries: 5, Due: 100000},
		{Partner: "ACME", Number: 7, Text: long, Tries: 1, Due: 1}, {Partner: "ACME", Number: 7, Text: long[1:]},
		{Partner: "ACME", Number: 7, Text: "\x00"}, {Partner: "ACME", Number: 7, Text: "\xff\n "}, {Partner: "ACME", Number: 7, Text: "Ä", Tries: 4, Due: 99999},
	}
}

// wrongOuts could stand in no outbox, each for one reason.
func wrongOuts() []impl.Out {
	var all []impl.Out
	add := func(change func(o *impl.Out)) {
		o := outs("ACME 7 1 1")[0]
		change(&o)
		all = append(all, o)
	}
	for _, name := range wrongNames {
		add(func(o *impl.Out) { o.Partner = name })
	}
	for _, n := range append(slices.Clone(hugeNumbers), wrongControls...) {
		add(func(o *impl.Out) { o.Number = n })
	}
	for _, text := range []string{"", strings.Repeat("a", impl.MaxBytes+1), strings.Repeat("a", 2*impl.MaxBytes)} {
		add(func(o *impl.Out) { o.Text = text })
	}
	for _, n := range append([]int64{6, 7, 60}, hugeNumbers...) {
		add(func(o *impl.Out) { o.Tries = n })
	}
	for _, n := range append([]int64{100001, 100002, 1000000}, hugeNumbers...) {
		add(func(o *impl.Out) { o.Due = n })
	}
	return append(all, impl.Out{})
}

// wrongOutboxes are such as are not right by one thing each.
func wrongOutboxes() [][]impl.Out {
	all := [][]impl.Out{
		outs("A 1 0 0", "A 1 0 0"), outs("A 1 0 0", "A 1 5 9"), outs("A 2 0 0", "A 1 0 0"), outs("B 1 0 0", "A 2 0 0"), outs("A 10 0 0", "A 9 0 0"),
		outs("A- 1 0 0", "A 2 0 0"), outs("A 1 0 0", "B 1 0 0", "A 2 0 0"), outs("A 1 0 0", "B 1 0 0", "B 1 1 0"), outs("A 1 0 0", "C 1 0 0", "B 9 0 0", "D 1 0 0"),
		manyOuts(61), manyOuts(399), manyOuts(400), make([]impl.Out, 400),
	}
	for _, o := range wrongOuts() {
		all = append(all, []impl.Out{o}, append(outs("ABC 1 0 0"), o), append([]impl.Out{o}, outs("ZZZ 1 0 0")...))
	}
	for _, at := range []int{0, 30, 59} {
		list := manyOuts(60)
		list[at].Text = ""
		all = append(all, list)
	}
	return all
}

func TestOutboxRight(t *testing.T) {
	same(t, "none", impl.OutboxRight(nil), true)
	same(t, "empty", impl.OutboxRight([]impl.Out{}), true)
	for _, o := range edgeOuts() {
		same(t, "edge", impl.OutboxRight([]impl.Out{o}), true)
		same(t, "plainly", outPlainly(o), true)
	}
	for _, list := range wrongOutboxes() {
		same(t, "wrong", impl.OutboxRight(list), false)
		same(t, "plainly", outboxPlainly(list), false)
	}
	for size := range 63 {
		same(t, "many", impl.OutboxRight(manyOuts(size)), size <= impl.MaxOut)
	}
	same(t, "too long a list", impl.OutboxRight(manyOuts(401)), false)
	for _, list := range [][]impl.Out{
		outs("A 1 5 9", "A 2 0 0"), outs("A 9 0 0", "A 10 0 0"), outs("A 999999 0 0", "A- 1 0 0", "A0 1 0 0", "AB 1 0 0", "B 1 0 0"),
	} {
		same(t, "rising", impl.OutboxRight(list), true)
	}
	keys := outs("A 1 0 0", "A 2 0 0", "A-1 1 0 0", "B 1 0 0")
	for _, a := range keys {
		for _, b := range keys {
			for _, c := range keys {
				list := []impl.Out{a, b, c}
				same(t, "every three", impl.OutboxRight(list), outboxPlainly(list))
			}
		}
	}
}

// Outs put one by one, in any order, come to one list; each is found there, and no other.
func TestPutsOfOutsInAnyOrder(t *testing.T) {
	keys := outs("A 2 0 1", "A 10 5 0", "A- 1 2 3", "AB 1 0 100000", "B 1 1 1")
	var walk func(list []impl.Out)
	walk = func(list []impl.Out) {
		for _, o := range keys {
			out := checkOut(t, list, o)
			if out.Code == impl.OK {
				walk(out.List)
			}
			checkHeard(t, list, o.Partner, o.Number)
		}
		if len(list) == len(keys) {
			sameOuts(t, "in the end", list, keys)
		}
	}
	walk(nil)
	want := manyOuts(60)
	for _, step := range []int{1, 7, 11, 59} {
		var list []impl.Out
		for at := range want {
			list = checkOut(t, list, want[(at*step+5)%60]).List
		}
		sameOuts(t, "in the end", list, want)
		for at := range want {
			o := want[(at*step+9)%60]
			list = checkHeard(t, list, o.Partner, o.Number).List
		}
		sameOuts(t, "all are heard", list, nil)
	}
}

// Each fault comes ahead of those that are named behind it.
func TestPutsThatAreRefused(t *testing.T) {
	full, o := manyOuts(60), outs("B 7 0 0")[0]
	there := full[30]
	there.Text, there.Tries, there.Due = "another one", 3, 77
	refusedWith(t, "full", checkOut(t, full, o), impl.ErrFull)
	refusedWith(t, "there comes ahead of full", checkOut(t, full, there), impl.ErrThere)
	refusedWith(t, "there", checkOut(t, full[20:40], there), impl.ErrThere)
	same(t, "the last place", checkOut(t, full[1:], o).Code, int64(impl.OK))
	same(t, "at the beginning", checkOut(t, full[1:], full[0]).List, full)
	same(t, "at the end", checkOut(t, full[:59], full[59]).List, full)
	for _, wrong := range wrongOuts() {
		refusedWith(t, "form", checkOut(t, nil, wrong), impl.ErrForm)
		refusedWith(t, "form comes ahead of full", checkOut(t, full, wrong), impl.ErrForm)
		refusedWith(t, "form comes ahead of there", checkOut(t, outs("ACME 7 0 0"), wrong), impl.ErrForm)
	}
	for _, wrong := range wrongOutboxes() {
		refusedWith(t, "form of the list", checkOut(t, wrong, o), impl.ErrForm)
		refusedWith(t, "form of the list comes ahead of there", checkOut(t, wrong, wrong[0]), impl.ErrForm)
	}
	for _, right := range edgeOuts() {
		same(t, "right", checkOut(t, outs("B 7 0 0"), right).Code, int64(impl.OK))
		same(t, "right", checkOut(t, full[1:], right).Code, int64(impl.OK))
	}
}

// What is too big is refused ahead of all else.
func TestOutboxesThatAreTooBig(t *testing.T) {
	long := strings.Repeat("A", impl.MaxBytes)
	for _, list := range [][]impl.Out{manyOuts(401), make([]impl.Out, 401), make([]impl.Out, 1000)} {
		for _, o := range []impl.Out{outs("B 7 0 0")[0], list[0], {}} {
			refusedWith(t, "put", checkOut(t, list, o), impl.ErrSize)
			refusedWith(t, "heard", checkHeard(t, list, o.Partner, o.Number), impl.ErrSize)
		}
		for _, day := range []int64{5, -1, impl.MaxDay + 1} {
			refusedWith(t, "tick", checkTick(t, list, day), impl.ErrSize)
		}
		refusedWith(t, "heard", checkHeard(t, list, long+"A", 1), impl.ErrSize)
	}
	for _, list := range [][]impl.Out{nil, outs("A 1 0 0"), manyOuts(60)} {
		refusedWith(t, "a long partner", checkHeard(t, list, long, 1), impl.ErrNone)
		refusedWith(t, "too long a partner", checkHeard(t, list, long+"A", 1), impl.ErrSize)
	}
	refusedWith(t, "a long partner", checkHeard(t, manyOuts(61), long, 1), impl.ErrForm)
	refusedWith(t, "too long a partner", checkHeard(t, manyOuts(61), long+"A", 1), impl.ErrSize)
	// A field has no such limit of its own.
	o := outs("ACME 1 0 0")[0]
	o.Text = long + "A"
	refusedWith(t, "too long a text", checkOut(t, nil, o), impl.ErrForm)
	refusedWith(t, "too long a text", checkTick(t, []impl.Out{o}, 5), impl.ErrForm)
	o.Text, o.Partner = "x", long+"A"
	refusedWith(t, "too long a field", checkOut(t, nil, o), impl.ErrForm)
}

func TestTicksThatAreRefused(t *testing.T) {
	days := append([]int64{-2, -1, 100001, 100002}, hugeNumbers...)
	for _, list := range [][]impl.Out{nil, outs("ACME 1 0 0"), outs("ACME 1 5 0"), manyOuts(60)} {
		for _, day := range days {
			refusedWith(t, "no day", checkTick(t, list, day), impl.ErrForm)
		}
		for _, day := range []int64{0, 1, 99999, 100000} {
			same(t, "a day", checkTick(t, list, day).Code, int64(impl.OK))
		}
	}
	for _, wrong := range wrongOutboxes() {
		for _, day := range []int64{0, 5, 100000, -1} {
			refusedWith(t, "form", checkTick(t, wrong, day), impl.ErrForm)
		}
	}
	for _, o := range edgeOuts() {
		for _, day := range []int64{0, 5, 99999, 100000} {
			checkTick(t, []impl.Out{o}, day)
		}
	}
}

// One is heard by its Partner and Number alone; what nobody could have is just not there.
func TestHearing(t *testing.T) {
	list := outs("A 1 0 0", "A 2 5 9", "A-1 2 1 4", "B 1 4 100000", "B 10 0 3")
	sameOutbox(t, "the first", checkHeard(t, list, "A", 1), impl.OutboxOut{List: list[1:]})
	sameOutbox(t, "in the middle", checkHeard(t, list, "A-1", 2), impl.OutboxOut{List: outs("A 1 0 0", "A 2 5 9", "B 1 4 100000", "B 10 0 3")})
	sameOutbox(t, "the last", checkHeard(t, list, "B", 10), impl.OutboxOut{List: list[:4]})
	sameOutbox(t, "the only one", checkHeard(t, list[:1], "A", 1), impl.OutboxOut{})
	for _, name := range append([]string{"A", "A-1", "B", "AA", "C", "A-"}, wrongNames...) {
		for _, n := range append([]int64{1, 2, 3, 9, 10, 11, 999999}, wrongControls...) {
			checkHeard(t, list, name, n)
			if len(name) <= impl.MaxBytes {
				refusedWith(t, "in none", checkHeard(t, nil, name, n), impl.ErrNone)
				refusedWith(t, "in a wrong one", checkHeard(t, outs("A 1 0 0", "A 1 0 0"), name, n), impl.ErrForm)
			}
		}
	}
	for _, n := range hugeNumbers {
		refusedWith(t, "no number", checkHeard(t, list, "A", n), impl.ErrNone)
	}
	for _, wrong := range wrongOutboxes() {
		partner := wrong[0].Partner
		if len(partner) <= impl.MaxBytes {
			refusedWith(t, "form", checkHeard(t, wrong, partner, wrong[0].Number), impl.ErrForm)
		}
		refusedWith(t, "form comes ahead of none", checkHeard(t, wrong, "NOBODY", 5), impl.ErrForm)
	}
	full := manyOuts(60)
	for at, o := range full {
		sameOutbox(t, "of many", checkHeard(t, full, o.Partner, o.Number), impl.OutboxOut{List: slices.Concat(full[:at], full[at+1:])})
	}
}

// freshOuts gives a list like that in memory of its own, with room behind it.
func freshOuts(list []impl.Out) []impl.Out {
	behind := make([]impl.Out, 0, 100)
	for _, o := range list {
		o.Partner, o.Text = strings.Clone(o.Partner), strings.Clone(o.Text)
		behind = append(behind, o)
	}
	return behind
}

// textsOfOutbox gives all texts of an answer, those of each list apart.
func textsOfOutbox(out impl.OutboxOut) [3][]string {
	var all [3][]string
	for _, o := range out.List {
		all[0] = append(all[0], o.Partner, o.Text)
	}
	for _, s := range out.Sent {
		all[1] = append(all[1], s.Partner, s.Text)
	}
	for _, o := range out.Lost {
		all[2] = append(all[2], o.Partner, o.Text)
	}
	return all
}

// checkNewOutbox spoils an answer, and looks whether what was handed in is as it was.
func checkNewOutbox(t *testing.T, list []impl.Out, given []impl.Out, handed []string, out impl.OutboxOut) {
	t.Helper()
	told := textsOfOutbox(out)
	handed = append(handed, textsOfOutbox(impl.OutboxOut{List: list})[0]...)
	for at, texts := range told {
		same(t, "shared with what was handed in", sharesAny(texts, handed), false)
		same(t, "shared with another list", sharesAny(texts, told[(at+1)%3]) || sharesAny(texts, told[(at+2)%3]), false)
	}
	lost := slices.Clone(out.Lost)
	clear(out.List)
	clear(out.Sent)
	_ = append(out.List, impl.Out{Number: 1})
	sameOuts(t, "lists apart", out.Lost, lost)
	clear(out.Lost)
	_ = append(out.Lost, impl.Out{Number: 1})
	sameOuts(t, "not changed", list, given)
	sameOuts(t, "nothing behind it", list[:100][len(list):], make([]impl.Out, 100-len(list)))
}

func TestOutboxesAreNewMemory(t *testing.T) {
	for _, given := range [][]impl.Out{nil, outs("A 1 0 3"), outs("A 1 5 3", "A 2 0 3", "B 1 5 9", "B 2 1 9"), outs("A 1 5 0", "B 2 5 0"), outs("A 1 0 0", "A 1 0 0"), manyOuts(60)} {
		list := freshOuts(given)
		for _, o := range freshOuts(outs("A 1 0 0", "A 9 0 0", "B 2 0 0", "Z 1 0 0", "A 0 0 0")) {
			checkNewOutbox(t, list, given, []string{o.Partner, o.Text}, impl.OutboxPut(list, o))
			checkNewOutbox(t, list, given, []string{o.Partner, o.Text}, impl.OutboxHeard(list, o.Partner, o.Number))
		}
		for day := range int64(12) {
			checkNewOutbox(t, list, given, nil, impl.OutboxTick(list, day))
		}
	}
	days := append(make([]int64, 0, 20), 1, 4, 10, 19)
	o := outs("ACME 1 0 0")[0]
	for range 2 {
		sent := impl.OutboxRun(o, days)
		sameDays(t, "sent", sent, []int64{1, 4, 10, 19})
		clear(sent)
		_ = append(sent, 7)
		sameDays(t, "not changed", days, []int64{1, 4, 10, 19})
		sameDays(t, "nothing behind it", days[:20][4:], make([]int64, 16))
	}
}
