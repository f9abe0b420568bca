package tests

import (
	"math"
	"slices"
	"strings"
	"sync"
	"testing"

	"loop.example/g00096/impl"
)

// sealPlainly goes through a text from its end on: what each byte comes to there, and at last the start, is
// multiplied at once by all that stands behind it.
func sealPlainly(start int64, text string) int64 {
	const prime = 1<<32 - 5
	if start < 1 || start > prime-1 || len(text) > 20000 {
		return 0
	}
	sum, power := uint64(0), uint64(1)
	for at := len(text) - 1; at >= 0; at-- {
		sum = (sum + (uint64(text[at])+1)*power) % prime
		power = power * 257 % prime
	}
	sum = (sum + uint64(start)*power) % prime
	if sum == 0 {
		return 1
	}
	return int64(sum)
}

func chainPlainly(list []impl.Event) []int64 {
	if !journalPlainly(list) {
		return nil
	}
	chain := []int64{1}
	for at, e := range list {
		chain = append(chain, sealPlainly(chain[at], eventTextPlainly(e)))
	}
	return chain[1:]
}

func faultPlainly(list []impl.Event, chain []int64) int64 {
	if len(chain) > 400 || !journalPlainly(list) {
		return 0
	}
	want := chainPlainly(list)
	for at := 0; ; at++ {
		switch {
		case at == len(want) && at == len(chain):
			return -1
		case at == len(want) || at == len(chain) || want[at] != chain[at]:
			return int64(at)
		}
	}
}

func joinPlainly(list []impl.Event, chain []int64, e impl.Event) []int64 {
	if len(list) > 400 || len(chain) > 400 {
		return nil
	}
	behind := append(slices.Clone(list), e)
	if faultPlainly(list, chain) != -1 || !journalPlainly(behind) {
		return chain
	}
	return chainPlainly(behind)
}

func sameChain(t *testing.T, what string, got []int64, want []int64) {
	t.Helper()
	if !slices.Equal(got, want) {
		t.Errorf("%s: got %s, want %s", what, short(got), short(want))
	}
}

// checkSum holds the sum of a text to the plain telling.
func checkSum(t *testing.T, start int64, text string) int64 {
	t.Helper()
	sum, want := impl.SealSum(start, text), sealPlainly(start, text)
	if sum != want {
		t.Fatalf("of %d and %q: got %d, want %d", start, text[:min(len(text), 100)], sum, want)
	}
	return sum
}

// checkSealFault holds what is told of a journal and a chain to the plain telling.
func checkSealFault(t *testing.T, list []impl.Event, chain []int64) int64 {
	t.Helper()
	given, numbers := slices.Clone(list), slices.Clone(chain)
	fault, want := impl.SealFault(list, chain), faultPlainly(list, chain)
	if fault != want || !slices.Equal(list, given) || !slices.Equal(chain, numbers) {
		t.Fatalf("of %s and %s: a fault at %d, want %d", short(list), short(chain), fault, want)
	}
	return fault
}

// checkJoin holds a join to the plain telling.
func checkJoin(t *testing.T, list []impl.Event, chain []int64, e impl.Event) []int64 {
	t.Helper()
	given, numbers := slices.Clone(list), slices.Clone(chain)
	joined, want := impl.SealJoin(list, chain, e), joinPlainly(list, chain, e)
	if !slices.Equal(joined, want) || !slices.Equal(list, given) || !slices.Equal(chain, numbers) {
		t.Fatalf("of %s, %s and %s: joined %s, want %s", short(list), short(chain), short(e), short(joined), short(want))
	}
	return joined
}

// checkChain holds a journal's chain to the plain telling: it is begun by the chains of its first Events,
// and comes together one by one.
func checkChain(t *testing.T, list []impl.Event) []int64 {
	t.Helper()
	given := slices.Clone(list)
	chain := impl.SealChain(list)
	sameChain(t, "chain", chain, chainPlainly(list))
	same(t, "not changed", slices.Equal(list, given), true)
	if !journalPlainly(list) {
		same(t, "no chain", len(chain), 0)
		same(t, "no fault to tell", checkSealFault(t, list, chain), int64(0))
	} else {
		same(t, "a number each", len(chain), len(list))
		same(t, "it is this one's", checkSealFault(t, list, chain), int64(-1))
		var joined []int64
		for at, e := range list {
			joined = checkJoin(t, list[:at], joined, e)
			same(t, "a start for the next one", chain[at] > 0 && chain[at] < impl.SealPrime, true)
		}
		sameChain(t, "one by one", joined, chain)
		sameChain(t, "the first ones", impl.SealChain(list[:len(list)/2]), chain[:len(list)/2])
	}
	if t.Failed() {
		t.Fatalf("of %s", short(list))
	}
	return chain
}

// checkAnother is promise 29: another Event at a place of the list is found out there.
func checkAnother(t *testing.T, list []impl.Event, chain []int64, at int, e impl.Event) {
	t.Helper()
	changed := slices.Clone(list)
	changed[at] = e
	if fault := checkSealFault(t, changed, chain); fault != int64(at) {
		t.Fatalf("29: %s at %d instead of %s: found out at %d", short(e), at, short(list[at]), fault)
	}
	sameChain(t, "29: as it was ahead of it", impl.SealChain(changed)[:at], chain[:at])
	sameChain(t, "nothing is joined", checkJoin(t, changed, chain, nextDay()), chain)
}

// changesOf gives the Events that are one letter, one name or one byte away from a right one, and some
// others.
func changesOfEvent(e impl.Event) []impl.Event {
	changes := []impl.Event{
		nextDay(), taking(""), taking("next"), taking(e.A + "\x00"), taking("\x00" + e.A), taking(e.A + e.B), admits("A"), admits("NEXT"), admits(e.A + "A"), admits(e.B),
		crossing("A", "A", "A"), crossing(e.A, e.C, e.B), crossing(e.B, e.A, e.C), crossing(e.A, e.B, e.C+"A"), crossing(e.A, e.B+"-", e.C), crossing(e.A, e.A, e.A),
	}
	for at := range min(len(e.A), 60) {
		for _, by := range []byte{1, 3, 128, 255} {
			changed := e
			changed.A = e.A[:at] + string([]byte{e.A[at] + by}) + e.A[at+1:]
			changes = append(changes, changed)
		}
		swapped, shorter := e, e
		swapped.A, shorter.A = e.A[at:]+e.A[:at], e.A[:at]+e.A[at+1:]
		changes = append(changes, swapped, shorter)
	}
	return slices.DeleteFunc(changes, func(changed impl.Event) bool { return changed == e || !eventPlainly(changed) })
}

func TestSealSum(t *testing.T) {
	same(t, "the prime", int64(impl.SealPrime), int64(1<<32-5))
	for _, c := range []struct {
		start int64
		text  string
		want  int64
	}{
		{1, "a", 355}, {1, "ab", 91334}, {7, "", 7}, {0, "a", 0}, {1, "\x00", 258}, {1, "\xff", 513}, {2, "\x00", 515}, {1, "\x00\x00", 66307}, {1, "é", 116591},
		{1, "next", 1958451145}, {1, "take -", 2728689337}, {1, "partner ACME", 4190891283}, {1, "cross A B C", 2875781852}, {1, "take 410aff", 2150624521},
		{4190891283, "next", 1766110786}, {4294967290, "", 4294967290}, {4294967290, "\x00", 4294967035}, {4294967291, "", 0}, {4294967291, "a", 0}, {-1, "", 0},
	} {
		same(t, c.text, impl.SealSum(c.start, c.text), c.want)
		same(t, c.text, checkSum(t, c.start, c.text), c.want)
	}
}

func TestStartsOfSealSums(t *testing.T) {
	starts := append(slices.Clone(hugeNumbers), -impl.SealPrime, -1<<31, 0, 1, 2, 256, 257, 1<<31, impl.SealPrime-2, impl.SealPrime-1, impl.SealPrime, impl.SealPrime+1, 1<<32-1, 2*impl.SealPrime-1, math.MaxInt64/257)
	for _, start := range starts {
		is := start > 0 && start < impl.SealPrime
		for _, text := range []string{"", "a", "\xff", "next", "\x00\x00\x00\x00", strings.Repeat("\xff", impl.MaxBytes)} {
			sum := checkSum(t, start, text)
			same(t, number(start), sum > 0 && sum < impl.SealPrime, is)
			if text == "" && is {
				same(t, "the start itself", sum, start)
			}
		}
	}
}

func TestTheLongestSealSum(t *testing.T) {
	for _, n := range []int{1, 257, 4000, 19999, 20000, 20001, 20002, 100000} {
		for _, b := range []string{"\x00", "A", "\x7f", "\x80", "\xff"} {
			for _, start := range []int64{1, 355, impl.SealPrime - 1} {
				same(t, number(int64(n)), checkSum(t, start, strings.Repeat(b, n)) == 0, n > 20000)
			}
		}
	}
}

// From the start 1 no two texts of up to two bytes have one sum, be they runes or not.
func TestSealSumsOfEveryShortText(t *testing.T) {
	sums := map[int64]bool{checkSum(t, 1, ""): true}
	for a := range 256 {
		for _, start := range []int64{1, 2, 99999, impl.SealPrime - 1} {
			checkSum(t, start, string([]byte{byte(a)}))
		}
		sums[impl.SealSum(1, string([]byte{byte(a)}))] = true
		for b := range 256 {
			sums[checkSum(t, 1, string([]byte{byte(a), byte(b)}))] = true
		}
	}
	same(t, "sums", len(sums), 1+256+256*256)
}

// The sum of a text is that of its end, with the sum of its beginning as start.
func TestSealSumsInTwo(t *testing.T) {
	text := journalTextPlainly(sampleJournal())
	for at := range len(text) + 1 {
		for _, start := range []int64{1, 4096, impl.SealPrime - 1} {
			same(t, "in two", impl.SealSum(impl.SealSum(start, text[:at]), text[at:]), checkSum(t, start, text))
		}
	}
}

// startOfNought gives the start with which the sum of one byte is nought ahead of the end: 257 times a number
// that is a nought or a multiple of the prime is one short of what the byte comes to.
func startOfNought(b byte) int64 {
	for times := int64(1); ; times++ {
		if rest := times*impl.SealPrime - int64(b) - 1; rest%257 == 0 {
			return rest / 257
		}
	}
}

// Nought is told as 1 at the end, and just there: on the way it is nought.
func TestSealSumsOfNought(t *testing.T) {
	for b := range 256 {
		text, start := string([]byte{byte(b)}), startOfNought(byte(b))
		same(t, "at the end", checkSum(t, start, text), int64(1))
		same(t, "on the way", checkSum(t, start, text+"\x00"), int64(1))
		same(t, "on the way", checkSum(t, start, text+"a"), int64(98))
		same(t, "on the way", checkSum(t, start, text+"ab"), int64(98*257+99))
		same(t, "behind the end", checkSum(t, checkSum(t, start, text), "a"), int64(355))
		same(t, "one away", checkSum(t, start+1, text), int64(257))
		same(t, "one away", checkSum(t, start-1, text), int64(impl.SealPrime-257))
	}
}

func TestASampleChain(t *testing.T) {
	list := []impl.Event{admits("ACME"), crossing("ACME", "X1", "BOLT"), taking("A\n\xff"), taking(""), nextDay(), nextDay()}
	want := []int64{4190891283, 1890292422, 499321466, 925139976, 2317754592, 2520321767}
	sameChain(t, "chain", impl.SealChain(list), want)
	sameChain(t, "chain", checkChain(t, list), want)
	same(t, "right", impl.SealFault(list, want), int64(-1))
	same(t, "too short", impl.SealFault(list, want[:3]), int64(3))
	same(t, "too long", impl.SealFault(list[:3], want), int64(3))
	same(t, "another one", impl.SealFault(list, []int64{4190891283, 1890292422, 499321467, 925139976, 2317754592, 2520321767}), int64(2))
	sameChain(t, "joined", impl.SealJoin(list[:4], want[:4], nextDay()), want[:5])
	sameChain(t, "as it is", impl.SealJoin(list, want[:4], nextDay()), want[:4])
	sameChain(t, "as it is", impl.SealJoin(list[:4], want[:4], impl.Event{}), want[:4])
	same(t, "nothing", impl.SealFault(nil, nil), int64(-1))
	same(t, "nothing", impl.SealFault([]impl.Event{}, []int64{}), int64(-1))
	same(t, "of nothing", impl.SealFault(nil, want), int64(0))
	same(t, "no chain yet", impl.SealFault(list, nil), int64(0))
	sameChain(t, "the first one", impl.SealJoin(nil, nil, list[0]), want[:1])
}

// Every journal of up to three Events, right or not.
func TestEveryShortChain(t *testing.T) {
	few, chains := fewEvents(), map[int64]int{}
	var walk func(list []impl.Event, deep int)
	walk = func(list []impl.Event, deep int) {
		chain := checkChain(t, list)
		if len(chain) > 0 {
			chains[chain[len(chain)-1]]++
		}
		for _, e := range few {
			checkJoin(t, list, chain, e)
			if deep > 0 {
				walk(append(slices.Clone(list), e), deep-1)
			}
		}
	}
	walk(nil, 3)
	// 13 of them are right.
	same(t, "no two have one number", len(chains), 13+13*13+13*13*13)
}

func TestLongChains(t *testing.T) {
	checkChain(t, nil)
	checkChain(t, sampleJournal())
	for seed := range 30 {
		list := longJournal(60, seed*97)
		chain := checkChain(t, list)
		for n := range 61 {
			sameChain(t, "the first ones", impl.SealChain(list[:n]), chain[:n])
			same(t, "the shorter one", checkSealFault(t, list[:n], chain), []int64{int64(n), -1}[n/60])
			same(t, "the shorter one", checkSealFault(t, list, chain[:n]), []int64{int64(n), -1}[n/60])
		}
		text := impl.EventsText(list[:9])
		sameChain(t, "of a text", impl.SealChain(impl.EventsRead(text).List), chain[:9])
	}
}

// Promise 29, at every place, by Events that are a little or quite unlike.
func TestAnotherEventIsFoundOut(t *testing.T) {
	n := 0
	for _, list := range [][]impl.Event{{admits("ACME")}, {nextDay()}, {taking("")}, sampleJournal(), longJournal(17, 4), longJournal(60, 97), slices.Repeat([]impl.Event{nextDay()}, 60)} {
		chain := checkChain(t, list)
		for at, e := range list {
			for _, another := range changesOfEvent(e) {
				checkAnother(t, list, chain, at, another)
				n++
			}
		}
	}
	same(t, "many", n > 10000, true)
}

// Every long text one byte away is found out.
func TestAnotherTextIsFoundOut(t *testing.T) {
	text := sending("ACME", 1, "order PO-1: 1 X1 4, 2 X2 2")
	list := []impl.Event{admits("ACME"), taking(text), nextDay()}
	chain := checkChain(t, list)
	eachByteAway(text, func(changed string) {
		if changed != text {
			checkAnother(t, list, chain, 1, taking(changed))
		}
	})
}

// Of several others the first one is told; so it is of Events that are left out, put in, or moved.
func TestTheFirstOfSeveralFaults(t *testing.T) {
	list := longJournal(60, 11)
	chain := checkChain(t, list)
	for first := range list {
		for second := first + 1; second < len(list); second += 7 {
			changed := slices.Clone(list)
			changed[first], changed[second] = admits("FIRST"), admits("SECOND")
			same(t, "the first one", checkSealFault(t, changed, chain), int64(first))
			// Events that are alike may stand in each other's place.
			changed[first], changed[second] = list[second], list[first]
			same(t, "moved", checkSealFault(t, changed, chain), map[bool]int64{true: -1, false: int64(first)}[list[first] == list[second]])
		}
		left := slices.Delete(slices.Clone(list), first, first+1)
		same(t, "left out", checkSealFault(t, left, chain) >= int64(first), true)
		put := slices.Insert(slices.Clone(left), first, admits("FIRST"))
		same(t, "put in", checkSealFault(t, put, chain), int64(first))
		wrong := slices.Clone(list)
		wrong[first] = impl.Event{Kind: impl.EventNext, A: "x"}
		same(t, "no journal", checkSealFault(t, wrong, chain), int64(0))
	}
	days := slices.Repeat([]impl.Event{nextDay()}, 60)
	chain = checkChain(t, days)
	for n := range 60 {
		same(t, "alike, and fewer", checkSealFault(t, days[:n], chain), int64(n))
	}
}

// changedNumbers gives what may stand in a chain for a number, and is another one.
func changedNumbers(n int64) []int64 {
	changes := append(slices.Clone(hugeNumbers), 0, 1, -n, n+1, n-1, n+impl.SealPrime, n-impl.SealPrime, n<<32, n|1<<32, impl.SealPrime)
	return slices.DeleteFunc(changes, func(changed int64) bool { return changed == n })
}

// One number that is another one, at each place, is told at that place; of several the first one.
func TestChainsWithOtherNumbers(t *testing.T) {
	for _, n := range []int{1, 2, 7, 8, 9, 15, 16, 17, 24, 31, 33, 56, 57, 59, 60} {
		list := longJournal(max(n, 2), n)[:n]
		chain := checkChain(t, list)
		for at := range chain {
			for _, changed := range changedNumbers(chain[at]) {
				other := slices.Clone(chain)
				other[at] = changed
				same(t, "the one", checkSealFault(t, list, other), int64(at))
				sameChain(t, "as it is", checkJoin(t, list, other, nextDay()), other)
				other[n-1], other[(at+n)/2] = -7, -8
				same(t, "the first one", checkSealFault(t, list, other), int64(at))
				same(t, "the first one, and shorter", checkSealFault(t, list, other[:at+1]), int64(at))
				same(t, "the first one, and longer", checkSealFault(t, list, append(slices.Clone(other), 0, 0, 0, 5)), int64(at))
			}
		}
	}
}

// A chain that is shorter or longer, by whatever numbers, is told where the shorter one ends.
func TestChainsThatAreShorterOrLonger(t *testing.T) {
	all := longJournal(60, 5)
	for n := range 61 {
		list := all[:n]
		chain := checkChain(t, list)
		for _, more := range []int{1, 2, 6, 7, 8, 9, 16, 399 - n, 400 - n} {
			for _, rest := range []int64{0, 1, -1, impl.SealPrime, impl.SealSum(1, "next"), math.MinInt64} {
				longer := append(slices.Clone(chain), slices.Repeat([]int64{rest}, more)...)
				same(t, "longer", checkSealFault(t, list, longer), int64(n))
				sameChain(t, "as it is", checkJoin(t, list, longer, nextDay()), longer)
				longer[len(longer)-1] = 5
				same(t, "longer, by unlike ones", checkSealFault(t, list, longer), int64(n))
			}
		}
		for less := 1; less <= n; less++ {
			same(t, "shorter", checkSealFault(t, list, chain[:n-less]), int64(n-less))
			sameChain(t, "as it is", checkJoin(t, list, chain[:n-less], nextDay()), chain[:n-less])
		}
		if n > 0 {
			same(t, "without the first one", checkSealFault(t, list, chain[1:]), int64(0))
			same(t, "one ahead", checkSealFault(t, list, append([]int64{1}, chain...)), int64(0))
		}
	}
}

// A wrong Event at any place: there is no chain, no chain is this one's, and none is joined.
func TestSealsOfWrongJournals(t *testing.T) {
	long := strings.Repeat("A", impl.MaxBytes+1)
	wrongs := []impl.Event{
		{}, {Kind: 5}, {Kind: -1}, {Kind: math.MaxInt64}, {Kind: impl.EventNext, A: "A"}, {Kind: impl.EventTake, B: "A"}, {Kind: impl.EventPartner}, {Kind: impl.EventPartner, A: "A", C: "A"},
		crossing("A", "", "B"), crossing("A", "B", "c"), taking(strings.Repeat("A", 4001)), taking(long), admits(long),
	}
	for _, name := range wrongNames {
		wrongs = append(wrongs, admits(name), crossing(name, "A", "B"))
	}
	right := longJournal(12, 2)
	chain := checkChain(t, right)
	for _, e := range wrongs {
		for at := range right {
			list := slices.Clone(right)
			list[at] = e
			same(t, "no chain", len(checkChain(t, list)), 0)
			for _, given := range [][]int64{nil, {}, {0}, {1}, chain[:at], chain, append(slices.Clone(chain), 5)} {
				same(t, "no journal", checkSealFault(t, list, given), int64(0))
				sameChain(t, "as it is", checkJoin(t, list, given, nextDay()), given)
				sameChain(t, "as it is", checkJoin(t, list, given, e), given)
			}
			sameChain(t, "no Event", checkJoin(t, right[:at], chain[:at], e), chain[:at])
		}
	}
}

// A journal has at most 60 Events: a chain of more is none's, and nothing is joined to one of 60.
func TestTheMostSeals(t *testing.T) {
	for _, n := range []int{0, 1, 58, 59, 60, 61, 62, 399, 400, 401, 402, 1000} {
		for _, e := range []impl.Event{nextDay(), taking("x"), {}} {
			list := slices.Repeat([]impl.Event{e}, n)
			chain := checkChain(t, list)
			same(t, "chain", len(chain) == n, n <= 60 && e.Kind != 0 || n == 0)
			for _, size := range []int{0, 1, 59, 60, 61, 399, 400, 401, 402, 1000} {
				given := slices.Repeat([]int64{5}, size)
				copy(given, chain)
				checkSealFault(t, list, given)
				joined := checkJoin(t, list, given, nextDay())
				switch {
				case n > 400 || size > 400:
					same(t, "refused", len(joined), 0)
					same(t, "refused", impl.SealFault(list, given), int64(0))
				case len(chain) == n && size == n && n < 60:
					same(t, "joined", len(joined), n+1)
				default:
					sameChain(t, "as it is", joined, given)
				}
				checkJoin(t, list, given, impl.Event{})
			}
		}
	}
}

// A chain of more than 400 numbers is refused ahead of all else, also where its beginning is the list's.
func TestTheLongestChain(t *testing.T) {
	for _, n := range []int{0, 1, 8, 59, 60} {
		list := slices.Repeat([]impl.Event{nextDay()}, n)
		for _, size := range []int{399, 400, 401, 402, 5000} {
			chain := append(checkChain(t, list), make([]int64, size-n)...)
			want, left := int64(n), size
			if size > 400 {
				want, left = 0, 0
			}
			same(t, "fault", checkSealFault(t, list, chain), want)
			same(t, "joined", len(checkJoin(t, list, chain, nextDay())), left)
			same(t, "joined", len(checkJoin(t, list, chain, impl.Event{})), left)
		}
	}
}

func TestSealsOfLongTakes(t *testing.T) {
	for _, n := range []int{3999, 4000, 4001} {
		list := []impl.Event{nextDay(), taking(strings.Repeat("\xfa", n)), nextDay()}
		same(t, "chain", len(checkChain(t, list)) == 3, n <= 4000)
	}
	most := strings.Repeat("\xff", 4000)
	list := slices.Repeat([]impl.Event{taking(most)}, 60)
	chain := checkChain(t, list)
	same(t, "all", len(chain), 60)
	for _, at := range []int{0, 1, 59} {
		checkAnother(t, list, chain, at, taking(most[1:]))
		checkAnother(t, list, chain, at, taking(most[1:]+"\xfe"))
		checkAnother(t, list, chain, at, taking("\xfe"+most[1:]))
	}
}

// The number of these takes is nought, and told as 1: the next one starts as the first one did.
func TestSealsOfNought(t *testing.T) {
	days := []impl.Event{nextDay(), admits("ACME")}
	for _, text := range []string{"il\xb8\x02p", "\xbb\xda*\x15\xf8", "A%y\x17\xce", "\x18u\xd4\x17\xe5"} {
		list := append([]impl.Event{taking(text)}, days...)
		sameChain(t, "chain", checkChain(t, list), append([]int64{1}, impl.SealChain(days)...))
		sameChain(t, "joined", checkJoin(t, list[:1], []int64{1}, nextDay()), []int64{1, impl.SealSum(1, "next")})
		same(t, "nought is another one", checkSealFault(t, list[:1], []int64{0}), int64(0))
		sameChain(t, "nought is another one", checkJoin(t, list[:1], []int64{0}, nextDay()), []int64{0})
		checkAnother(t, list, checkChain(t, list), 0, taking(text+"\x00"))
	}
}

// A number is all that a chain knows of an Event: of two that have one number, either one's chain is the
// other's too.
func TestEventsOfOneNumber(t *testing.T) {
	for _, pair := range [][2]string{{"AEAEE", "BAGAA"}, {"AEAEF", "BAGAB"}} {
		first, second := []impl.Event{admits(pair[0]), nextDay()}, []impl.Event{admits(pair[1]), nextDay()}
		sameChain(t, "one chain", checkChain(t, first), checkChain(t, second))
		same(t, "the other's too", checkSealFault(t, first, impl.SealChain(second)), int64(-1))
		checkJoin(t, first, impl.SealChain(second), nextDay())
	}
}

// What is told shares no memory with what is handed in, also where it is as it is, and nothing is written
// behind that.
func TestChainsAreNewMemory(t *testing.T) {
	wrong := []impl.Event{{}, nextDay()}
	for _, given := range [][]impl.Event{nil, {nextDay()}, sampleJournal(), longJournal(59, 3), longJournal(60, 3), wrong} {
		list := freshJournal(given)
		chain := append(make([]int64, 0, 99), chainPlainly(list)...)
		for _, e := range []impl.Event{nextDay(), taking("x"), {}} {
			for n := range len(chain) + 1 {
				numbers := slices.Clone(chain[:n])
				joined := impl.SealJoin(list, chain[:n], e)
				clear(joined)
				_ = append(joined, -5)
				sameChain(t, "not changed", chain[:n], numbers)
				sameChain(t, "nothing behind it", chain[len(chain):cap(chain)], make([]int64, cap(chain)-len(chain)))
			}
			sameChain(t, "not changed", chain, chainPlainly(given))
		}
		told := impl.SealChain(list)
		clear(told)
		_ = append(told, -5)
		sameChain(t, "nothing is kept", impl.SealChain(list), chainPlainly(given))
		same(t, "no fault", impl.SealFault(list, chain) == -1, journalPlainly(given))
		same(t, "not changed", slices.Equal(list, given), true)
		same(t, "nothing behind it", list[len(list):cap(list)], make([]impl.Event, 9))
	}
}

// Nothing is kept from call to call: one journal, sealed by several at once, has one chain.
func TestOneJournalSealedBySeveral(t *testing.T) {
	list := longJournal(59, 11)
	chain := chainPlainly(list)
	sums, chains, joins, faults := make([]int64, 64), make([][]int64, 64), make([][]int64, 64), make([]int64, 64)
	var group sync.WaitGroup
	for at := range chains {
		group.Go(func() {
			sums[at], chains[at] = impl.SealSum(int64(at+1), list[at%59].A), impl.SealChain(list)
			joins[at], faults[at] = impl.SealJoin(list, chain, nextDay()), impl.SealFault(list[:at%59], chain)
		})
	}
	group.Wait()
	for at := range chains {
		same(t, "alike", sums[at], sealPlainly(int64(at+1), list[at%59].A))
		sameChain(t, "alike", chains[at], chain)
		sameChain(t, "alike", joins[at], joinPlainly(list, chain, nextDay()))
		same(t, "alike", faults[at], int64(at%59))
	}
}
