package tests

import (
	"math"
	"slices"
	"strings"
	"testing"

	"loop.example/g00096/impl"
)

// wrongCodes are no codes.
var wrongCodes = []int64{-1, 14, math.MinInt64, math.MaxInt64, 1 << 32}

// seen gives one that was seen.
func seen(number int64, answer int64, code int64) impl.Seen {
	return impl.Seen{Number: number, Answer: answer, Code: code}
}

// partner gives a right one whose window is from low on.
func partner(low int64, next int64, list ...impl.Seen) impl.Partner {
	return impl.Partner{Name: "ACME", Low: low, Next: next, Seen: list}
}

// fullWindow gives one that has seen each number of its window.
func fullWindow(low int64) impl.Partner {
	p := partner(low, 100)
	for at := int64(0); at < 32; at++ {
		p.Seen = append(p.Seen, seen(low+at, 99-at, at%14))
	}
	return p
}

func copyOfPartner(p impl.Partner) impl.Partner {
	p.Seen = slices.Clone(p.Seen)
	return p
}

// rightPartners are right ones, at the edges of what chapter 8 lets them be.
func rightPartners() []impl.Partner {
	return []impl.Partner{
		partner(1, 1),
		partner(1, 2, seen(5, 1, 7)),
		partner(1, 999999, seen(1, 1, 0), seen(32, 999999, 13)),
		partner(10, 4, seen(10, 3, 0), seen(11, 2, 3), seen(41, 1, 12)),
		partner(999968, 5, seen(999968, 1, 0), seen(999999, 4, 2)),
		partner(999990, 999998, seen(999999, 7, 1)),
		partner(999999, 999999),
		partner(999999, 3, seen(999999, 2, 8)),
		fullWindow(1),
		fullWindow(700),
		fullWindow(999968),
		{Name: "A", Low: 1, Next: 1},
		{Name: "Z-9ABCDEFGHI", Low: 3, Next: 3, Seen: []impl.Seen{}},
	}
}

// partnerChanges each change one thing; whether what comes of it is right, partnerPlainly tells.
func partnerChanges() []func(p *impl.Partner) {
	var all []func(p *impl.Partner)
	for _, name := range append([]string{"B", "ACME-2"}, wrongNames...) {
		all = append(all, func(p *impl.Partner) { p.Name = name })
	}
	for _, n := range append([]int64{1, 2, 31, 32, 33, 999967, 999999}, wrongControls...) {
		all = append(all, func(p *impl.Partner) { p.Low = n }, func(p *impl.Partner) { p.Next = n })
		all = append(all, func(p *impl.Partner) { p.Seen = append(p.Seen, seen(n, 1, 0)) })
		all = append(all, func(p *impl.Partner) { p.Seen = append([]impl.Seen{seen(n, 1, 0)}, p.Seen...) })
		all = append(all, changeOfLast(func(s *impl.Seen) { s.Number = n }), changeOfLast(func(s *impl.Seen) { s.Answer = n }))
	}
	for by := int64(-33); by <= 33; by++ {
		all = append(all, func(p *impl.Partner) { p.Low += by }, changeOfLast(func(s *impl.Seen) { s.Number += by }))
		all = append(all, func(p *impl.Partner) { p.Seen = []impl.Seen{seen(p.Low+by, 1, 0)} })
	}
	for _, code := range append([]int64{0, 1, 13}, wrongCodes...) {
		all = append(all, changeOfLast(func(s *impl.Seen) { s.Code = code }))
	}
	all = append(all, func(p *impl.Partner) { slices.Reverse(p.Seen) })
	all = append(all, func(p *impl.Partner) { p.Seen = append(p.Seen, p.Seen...) })
	all = append(all, func(p *impl.Partner) { p.Seen = make([]impl.Seen, 401) })
	return append(all, func(p *impl.Partner) { p.Seen = nil })
}

func changeOfLast(change func(s *impl.Seen)) func(p *impl.Partner) {
	return func(p *impl.Partner) {
		if len(p.Seen) > 0 {
			change(&p.Seen[len(p.Seen)-1])
		}
	}
}

// changedPartners gives each right one, and each with one change, right or not.
func changedPartners() []impl.Partner {
	var all []impl.Partner
	for _, p := range rightPartners() {
		all = append(all, p)
		for _, change := range partnerChanges() {
			one := copyOfPartner(p)
			change(&one)
			all = append(all, one)
		}
	}
	return all
}

func controlPlainly(n int64) bool { return n > 0 && n < 1000000 }
func codePlainly(n int64) bool    { return n > -1 && n < 14 }

// partnerPlainly holds a Partner to what chapter 8 says of a right one.
func partnerPlainly(p impl.Partner) bool {
	if !plainName(p.Name) || !controlPlainly(p.Low) || !controlPlainly(p.Next) {
		return false
	}
	for at, s := range p.Seen {
		if s.Number < p.Low || s.Number-p.Low > 31 || !controlPlainly(s.Number) || !controlPlainly(s.Answer) || !codePlainly(s.Code) {
			return false
		}
		if at > 0 && s.Number <= p.Seen[at-1].Number {
			return false
		}
	}
	return true
}

// takePlainly takes a number as chapter 8 tells it, without a map.
func takePlainly(p impl.Partner, n int64, code int64) impl.TakeOut {
	if !partnerPlainly(p) || !controlPlainly(n) || !codePlainly(code) {
		return impl.TakeOut{Code: 1}
	}
	if n < p.Low {
		return impl.TakeOut{Partner: p, Kind: 3}
	}
	for _, s := range p.Seen {
		if s.Number == n {
			return impl.TakeOut{Partner: p, Kind: 2, Seen: s}
		}
	}
	if p.Next == 999999 {
		return impl.TakeOut{Code: 13}
	}
	behind := impl.Partner{Name: p.Name, Low: max(p.Low, n-31), Next: p.Next + 1}
	for _, s := range append(slices.Clone(p.Seen), seen(n, p.Next, code)) {
		if s.Number >= behind.Low {
			behind.Seen = append(behind.Seen, s)
		}
	}
	slices.SortFunc(behind.Seen, func(a impl.Seen, b impl.Seen) int { return int(a.Number - b.Number) })
	return impl.TakeOut{Partner: behind, Kind: 1, Seen: seen(n, p.Next, code)}
}

// checkTake holds a take, and the question ahead of it, against what is plainly told here.
func checkTake(t *testing.T, p impl.Partner, n int64, code int64) impl.TakeOut {
	t.Helper()
	out, want := impl.PartnerTake(p, n, code), takePlainly(p, n, code)
	if len(want.Partner.Seen) == 0 && len(out.Partner.Seen) == 0 {
		want.Partner.Seen = out.Partner.Seen
	}
	same(t, "take of "+number(n), out, want)
	asked := int64(0)
	if partnerPlainly(p) && controlPlainly(n) {
		asked = takePlainly(partnerNext(p, 1), n, 0).Kind
	}
	same(t, "ask of "+number(n), impl.PartnerAsk(p, n), asked)
	return out
}

// partnerNext gives it with another next number: whether that one is left is nothing that is asked for.
func partnerNext(p impl.Partner, next int64) impl.Partner {
	p.Next = next
	return p
}

// around gives the numbers at the edges of a Partner's window and of what it has seen, and of all.
func around(p impl.Partner) []int64 {
	all := append([]int64{1, 2, 33, 500, 999967, 999968, 999998, 999999}, wrongControls...)
	for _, by := range []int64{-33, -32, -2, -1, 0, 1, 2, 30, 31, 32, 33, 62, 63, 64, 65} {
		all = append(all, p.Low+by)
	}
	for _, s := range p.Seen {
		all = append(all, s.Number-1, s.Number, s.Number+1)
	}
	return all
}

func TestPartnerNew(t *testing.T) {
	for _, name := range []string{"A", "ACME", "Z", "A-", "A1-B", "A-----------", "ABCDEFGHIJKL", "Z99999999999"} {
		same(t, name, impl.PartnerNew(name), impl.Partner{Name: name, Low: 1, Next: 1})
		same(t, name, impl.PartnerRight(impl.PartnerNew(name)), true)
	}
	for _, name := range append([]string{"ACMe", "AC ME", strings.Repeat("A", impl.MaxBytes)}, wrongNames...) {
		same(t, name, impl.PartnerNew(name), impl.Partner{})
	}
}

func TestPartnerRight(t *testing.T) {
	same(t, "zero", impl.PartnerRight(impl.Partner{}), false)
	for _, p := range rightPartners() {
		if !impl.PartnerRight(p) || !partnerPlainly(p) {
			t.Errorf("not right: %+v", p)
		}
	}
	for _, p := range changedPartners() {
		if got, want := impl.PartnerRight(p), partnerPlainly(p); got != want {
			t.Errorf("%s: right is %v, want %v", short(p), got, want)
		}
	}
}

// The edges of the window, written out.
func TestWindowEdges(t *testing.T) {
	p := partner(10, 4, seen(10, 1, 0), seen(11, 2, 5), seen(20, 3, 0))
	for n, want := range map[int64]int64{1: 3, 9: 3, 10: 2, 11: 2, 12: 1, 19: 1, 20: 2, 21: 1, 41: 1, 42: 1, 999999: 1, 0: 0, -1: 0, 1000000: 0} {
		same(t, "ask "+number(n), impl.PartnerAsk(p, n), want)
	}
	same(t, "between", impl.PartnerTake(p, 12, 3).Partner, partner(10, 5, seen(10, 1, 0), seen(11, 2, 5), seen(12, 4, 3), seen(20, 3, 0)))
	same(t, "the last one within", impl.PartnerTake(p, 41, 0).Partner, partner(10, 5, seen(10, 1, 0), seen(11, 2, 5), seen(20, 3, 0), seen(41, 4, 0)))
	same(t, "the first one beyond", impl.PartnerTake(p, 42, 0).Partner, partner(11, 5, seen(11, 2, 5), seen(20, 3, 0), seen(42, 4, 0)))
	same(t, "one more", impl.PartnerTake(p, 43, 0).Partner, partner(12, 5, seen(20, 3, 0), seen(43, 4, 0)))
	same(t, "one is left", impl.PartnerTake(p, 51, 0).Partner, partner(20, 5, seen(20, 3, 0), seen(51, 4, 0)))
	same(t, "none is left", impl.PartnerTake(p, 52, 0).Partner, partner(21, 5, seen(52, 4, 0)))
	same(t, "far", impl.PartnerTake(p, 999999, 13).Partner, partner(999968, 5, seen(999999, 4, 13)))
	same(t, "stale", impl.PartnerTake(p, 9, 13), impl.TakeOut{Partner: p, Kind: impl.TakeStale})
	same(t, "again", impl.PartnerTake(p, 11, 13), impl.TakeOut{Partner: p, Kind: impl.TakeAgain, Seen: seen(11, 2, 5)})
	last := partner(999999, 1)
	same(t, "the greatest one", impl.PartnerTake(last, 999999, 1), impl.TakeOut{Partner: partner(999999, 2, seen(999999, 1, 1)), Kind: impl.TakeNew, Seen: seen(999999, 1, 1)})
	same(t, "ahead of the greatest one", impl.PartnerTake(last, 999998, 1), impl.TakeOut{Partner: last, Kind: impl.TakeStale})
}

// Promise 8: each take of each Partner, right or not, is as chapter 8 tells it.
func TestEachTakeIsAsTold(t *testing.T) {
	for _, p := range rightPartners() {
		for _, n := range around(p) {
			for _, code := range append([]int64{0, 1, 12, 13}, wrongCodes...) {
				out := checkTake(t, p, n, code)
				if out.Code == impl.OK {
					same(t, "right behind it", impl.PartnerRight(out.Partner), true)
				}
			}
		}
	}
	for _, p := range changedPartners() {
		for _, n := range []int64{0, 1, 5, 32, 33, 40, 700, 999999, 1000000} {
			checkTake(t, p, n, 0)
		}
	}
}

// Promises 8 and 9, over every short run of numbers at the edges of windows: a number is new just once,
// and what is below the window stays stale.
func TestEveryShortRunTakesEachNumberOnce(t *testing.T) {
	var walk func(p impl.Partner, first map[int64]impl.Seen, left int)
	walk = func(p impl.Partner, first map[int64]impl.Seen, left int) {
		for _, n := range []int64{1, 2, 31, 32, 33, 34, 64, 999999} {
			code := int64(len(first)*5+left) % 14
			out := checkTake(t, p, n, code)
			checkOnce(t, p, out, first, n)
			if left > 1 {
				behind := copyOfFirst(first)
				if out.Kind == impl.TakeNew {
					behind[n] = out.Seen
				}
				walk(out.Partner, behind, left-1)
			}
		}
	}
	walk(impl.PartnerNew("ACME"), map[int64]impl.Seen{}, 4)
}

func copyOfFirst(first map[int64]impl.Seen) map[int64]impl.Seen {
	behind := map[int64]impl.Seen{}
	for n, s := range first {
		behind[n] = s
	}
	return behind
}

// checkOnce holds a take to what was answered first, number by number.
func checkOnce(t *testing.T, p impl.Partner, out impl.TakeOut, first map[int64]impl.Seen, n int64) {
	t.Helper()
	answered, there := first[n]
	switch {
	case n < p.Low:
		same(t, "below the window", out, impl.TakeOut{Partner: p, Kind: impl.TakeStale})
	case there:
		same(t, "again", out, impl.TakeOut{Partner: p, Kind: impl.TakeAgain, Seen: answered})
	default:
		same(t, "new", []int64{out.Kind, out.Seen.Number, out.Seen.Answer, out.Partner.Next}, []int64{impl.TakeNew, n, p.Next, p.Next + 1})
	}
	if there {
		same(t, "once", out.Kind == impl.TakeNew, false)
	}
	same(t, "never lower", out.Partner.Low >= p.Low, true)
}

// Promise 9: the first answer is told whatever code is handed in, as long as the number is within the window.
func TestWhatIsTakenAgainHasTheFirstAnswer(t *testing.T) {
	p := impl.PartnerNew("ACME")
	first := map[int64]impl.Seen{}
	for step := int64(1); step <= 300; step++ {
		n := step*7%40 + step
		out := checkTake(t, p, n, step%14)
		checkOnce(t, p, out, first, n)
		if out.Kind == impl.TakeNew {
			first[n] = out.Seen
		}
		p = out.Partner
		for n, answered := range first {
			if n >= p.Low {
				for _, code := range []int64{0, 6, 13} {
					same(t, "again", impl.PartnerTake(p, n, code), impl.TakeOut{Partner: p, Kind: impl.TakeAgain, Seen: answered})
				}
				continue
			}
			same(t, "gone", impl.PartnerTake(p, n, 0), impl.TakeOut{Partner: p, Kind: impl.TakeStale})
		}
	}
	same(t, "some were new", len(first) > 40, true)
}

// A number of our own goes to each new one, none twice, until there is no next one.
func TestNumbersOfOurOwnRunOut(t *testing.T) {
	p := partner(1, 999997, seen(3, 999996, 2))
	for _, n := range []int64{7, 5} {
		out := checkTake(t, p, n, 0)
		same(t, "answer", out.Seen.Answer, p.Next)
		p = out.Partner
	}
	same(t, "next", p.Next, int64(impl.MaxNumber))
	same(t, "right", impl.PartnerRight(p), true)
	same(t, "no next one", impl.PartnerTake(p, 6, 0), impl.TakeOut{Code: impl.ErrState})
	same(t, "no next one beyond the window", impl.PartnerTake(p, 900, 13), impl.TakeOut{Code: impl.ErrState})
	same(t, "asked all the same", impl.PartnerAsk(p, 6), int64(impl.TakeNew))
	same(t, "again all the same", impl.PartnerTake(p, 7, 5), impl.TakeOut{Partner: p, Kind: impl.TakeAgain, Seen: seen(7, 999997, 0)})
	p.Low = 2
	same(t, "stale all the same", impl.PartnerTake(p, 1, 5), impl.TakeOut{Partner: p, Kind: impl.TakeStale})
	for _, n := range wrongControls {
		same(t, "the form comes first", impl.PartnerTake(p, n, 0), impl.TakeOut{Code: impl.ErrForm})
	}
	for _, code := range wrongCodes {
		for _, n := range []int64{1, 6, 7} {
			same(t, "the form comes first", impl.PartnerTake(p, n, code), impl.TakeOut{Code: impl.ErrForm})
		}
	}
	p.Name = "acme"
	same(t, "the form comes first", impl.PartnerTake(p, 6, 0), impl.TakeOut{Code: impl.ErrForm})
}

// runPlainly tells the Kinds of a right run, by the greatest number so far alone.
func runPlainly(numbers []int64) []int64 {
	var kinds []int64
	greatest := int64(0)
	for at, n := range numbers {
		switch {
		case n < greatest-31:
			kinds = append(kinds, 3)
		case slices.Contains(numbers[:at], n):
			kinds = append(kinds, 2)
		default:
			kinds = append(kinds, 1)
		}
		greatest = max(greatest, n)
	}
	return kinds
}

func TestPartnerRun(t *testing.T) {
	same(t, "none", len(impl.PartnerRun("ACME", nil)), 0)
	same(t, "rising", impl.PartnerRun("ACME", []int64{1, 33, 1, 2, 34, 2, 3}), []int64{1, 1, 3, 1, 1, 3, 1})
	same(t, "one again and again", impl.PartnerRun("A", []int64{9, 9, 9}), []int64{1, 2, 2})
	same(t, "the greatest one first", impl.PartnerRun("A", []int64{999999, 999968, 999967, 1, 999999, 999968}), []int64{1, 1, 3, 3, 2, 2})
	var numbers []int64
	for at := int64(0); at < 400; at++ {
		numbers = append(numbers, at*37%90+at/3+1)
		if at%40 == 0 {
			same(t, "so far", impl.PartnerRun("ACME", numbers), runPlainly(numbers))
		}
	}
	same(t, "the most", impl.PartnerRun("ACME", numbers), runPlainly(numbers))
	same(t, "one too many", len(impl.PartnerRun("ACME", append(numbers, 1))), 0)
	for _, name := range wrongNames {
		same(t, name, len(impl.PartnerRun(name, []int64{1, 2})), 0)
	}
	for _, n := range wrongControls {
		for at := range 4 {
			same(t, "one is none", len(impl.PartnerRun("ACME", slices.Insert([]int64{1, 2, 40}, at, n))), 0)
		}
	}
}

// A run is one take behind the other.
func TestARunIsItsTakes(t *testing.T) {
	letters := []int64{1, 2, 32, 33, 65, 999999}
	for _, text := range textsOf("abcdef", 4) {
		var numbers, kinds []int64
		p := impl.PartnerNew("DOCK-7")
		for at := range len(text) {
			n := letters[text[at]-'a']
			out := impl.PartnerTake(p, n, impl.OK)
			numbers, kinds, p = append(numbers, n), append(kinds, out.Kind), out.Partner
		}
		got := impl.PartnerRun("DOCK-7", numbers)
		if !slices.Equal(got, kinds) || !slices.Equal(got, runPlainly(numbers)) {
			t.Errorf("%v: got %v, want %v", numbers, got, kinds)
		}
	}
}

func TestPartnersAreNewMemory(t *testing.T) {
	for at, p := range rightPartners() {
		p.Seen = append(make([]impl.Seen, 0, 100), p.Seen...)
		for _, n := range around(p) {
			out := impl.PartnerTake(p, n, 3)
			impl.PartnerAsk(p, n)
			same(t, "name", within(out.Partner.Name, p.Name), false)
			again := impl.PartnerTake(p, n, 3)
			same(t, "the same once more", again, out)
			for i := range out.Partner.Seen {
				out.Partner.Seen[i] = impl.Seen{}
			}
			_ = append(out.Partner.Seen, impl.Seen{})
			same(t, "not changed", slices.Equal(p.Seen, rightPartners()[at].Seen), true)
			same(t, "nothing behind it", p.Seen[:100][len(p.Seen):], make([]impl.Seen, 100-len(p.Seen)))
			same(t, "not shared by two answers", impl.PartnerTake(p, n, 3), again)
		}
	}
	name := string([]byte("ACME"))
	same(t, "name of a new one", within(impl.PartnerNew(name).Name, name), false)
	numbers := []int64{1, 2, 1, 40}
	kinds := impl.PartnerRun("ACME", numbers)
	kinds[0] = 9
	same(t, "numbers", numbers, []int64{1, 2, 1, 40})
	same(t, "kinds", impl.PartnerRun("ACME", numbers), []int64{1, 1, 2, 1})
}
