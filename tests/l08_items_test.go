package tests

import (
	"slices"
	"strings"
	"testing"

	"loop.example/g00096/impl"
)

func cross(partner string, theirs string, own string) impl.Cross {
	return impl.Cross{Partner: partner, Theirs: theirs, Own: own}
}

// crossOfWords gives Crosses, each of three words: "A X P" and the like.
func crossOfWords(list ...string) []impl.Cross {
	var all []impl.Cross
	for _, text := range list {
		words := strings.Split(text, " ")
		all = append(all, cross(words[0], words[1], words[2]))
	}
	return all
}

// manyCrosses gives n of them, rising, of as many Theirs and Owns, of three Partners.
func manyCrosses(n int) []impl.Cross {
	var all []impl.Cross
	for at := range n {
		partner := []string{"ACME", "C-1", "DOCK"}[at*3/n]
		all = append(all, cross(partner, "T"+number(int64(1000+at)), "O"+number(int64(9000-at))))
	}
	return all
}

// below: stands a ahead of b, by Partner, then by Theirs?
func below(a impl.Cross, b impl.Cross) bool {
	return a.Partner < b.Partner || a.Partner == b.Partner && a.Theirs < b.Theirs
}

// crossPlainly holds Crosses to what chapter 9 says of right ones, two by two.
func crossPlainly(list []impl.Cross) bool {
	for at, c := range list {
		if !plainName(c.Partner) || !plainName(c.Theirs) || !plainName(c.Own) {
			return false
		}
		for _, ahead := range list[:at] {
			if !below(ahead, c) || ahead.Partner == c.Partner && ahead.Own == c.Own {
				return false
			}
		}
	}
	return len(list) <= 200
}

// ownPlainly and theirsPlainly look for the one that is asked, from the first on.
func ownPlainly(list []impl.Cross, partner string, theirs string) string {
	if !crossPlainly(list) || len(partner) > 20000 || len(theirs) > 20000 {
		return ""
	}
	for _, c := range list {
		if c.Partner == partner && c.Theirs == theirs {
			return c.Own
		}
	}
	return theirs
}

func theirsPlainly(list []impl.Cross, partner string, own string) string {
	if !crossPlainly(list) || len(partner) > 20000 || len(own) > 20000 {
		return ""
	}
	for _, c := range list {
		if c.Partner == partner && c.Own == own {
			return c.Theirs
		}
	}
	return own
}

// putPlainly puts c ahead of the first one that stands behind it.
func putPlainly(list []impl.Cross, c impl.Cross) []impl.Cross {
	if len(list) > 400 {
		return nil
	}
	var behind []impl.Cross
	at := 0
	for ; at < len(list) && below(list[at], c); at++ {
		behind = append(behind, list[at])
	}
	behind = append(behind, c)
	if at < len(list) && list[at].Partner == c.Partner && list[at].Theirs == c.Theirs {
		at++
	}
	behind = append(behind, list[at:]...)
	if !crossPlainly(list) || !crossPlainly(behind) {
		return list
	}
	return behind
}

func dropPlainly(list []impl.Cross, partner string, theirs string) []impl.Cross {
	if len(list) > 400 || len(partner) > 20000 || len(theirs) > 20000 {
		return nil
	}
	if !crossPlainly(list) {
		return list
	}
	var behind []impl.Cross
	for _, c := range list {
		if c.Partner != partner || c.Theirs != theirs {
			behind = append(behind, c)
		}
	}
	return behind
}

// sameCrosses holds two lists against each other; an empty one and none are the same.
func sameCrosses(t *testing.T, what string, got []impl.Cross, want []impl.Cross) {
	t.Helper()
	if !slices.Equal(got, want) {
		t.Errorf("%s: got %.600v, want %.600v", what, got, want)
	}
}

// checkCrosses holds all that is asked of list, with partner and the three texts of c, to what is
// plainly told here.
func checkCrosses(t *testing.T, list []impl.Cross, c impl.Cross) {
	t.Helper()
	if got, want := impl.CrossRight(list), crossPlainly(list); got != want {
		t.Errorf("%.600v: right is %v, want %v", list, got, want)
	}
	for _, name := range []string{c.Theirs, c.Own} {
		if got, want := impl.CrossOwn(list, c.Partner, name), ownPlainly(list, c.Partner, name); got != want {
			t.Errorf("%.600v: own of %.30q %.30q is %.30q, want %.30q", list, c.Partner, name, got, want)
		}
		if got, want := impl.CrossTheirs(list, c.Partner, name), theirsPlainly(list, c.Partner, name); got != want {
			t.Errorf("%.600v: theirs of %.30q %.30q is %.30q, want %.30q", list, c.Partner, name, got, want)
		}
		sameCrosses(t, "drop", impl.CrossDrop(list, c.Partner, name), dropPlainly(list, c.Partner, name))
	}
	sameCrosses(t, "put", impl.CrossPut(list, c), putPlainly(list, c))
}

// checkBothWays is promise 10: from each one's Theirs to its Own, and from there back.
func checkBothWays(t *testing.T, list []impl.Cross) {
	t.Helper()
	for _, c := range list {
		own, theirs := impl.CrossOwn(list, c.Partner, c.Theirs), impl.CrossTheirs(list, c.Partner, c.Own)
		if own != c.Own || theirs != c.Theirs {
			t.Errorf("%.600v: %v leads to %q and %q", list, c, own, theirs)
		}
		if impl.CrossTheirs(list, c.Partner, own) != c.Theirs || impl.CrossOwn(list, c.Partner, theirs) != c.Own {
			t.Errorf("%.600v: %v doesn't lead back", list, c)
		}
	}
}

// fewCrosses are all of two partners, two names there and two here, and one name that is on both sides.
func fewCrosses() []impl.Cross {
	var all []impl.Cross
	for _, partner := range []string{"A", "AB"} {
		for _, theirs := range []string{"X", "Y"} {
			for _, own := range []string{"Y", "P"} {
				all = append(all, cross(partner, theirs, own))
			}
		}
	}
	return all
}

func TestCrossRight(t *testing.T) {
	for _, list := range [][]impl.Cross{
		nil,
		{},
		crossOfWords("ACME X1 BOLT"),
		crossOfWords("A A A"),
		crossOfWords("ABCDEFGHIJKL Z99999999999 A-----------"),
		crossOfWords("A X Y", "A Y X"),
		crossOfWords("A X P", "B X P"),
		crossOfWords("A Z P", "AB A P", "B A P"),
		crossOfWords("A A- P", "A A0 Q", "A AA R", "A AAA S", "A B T"),
		crossOfWords("A- X P", "A0 X P", "AA X P"),
		crossOfWords("A BC P", "AB C P"),
		crossOfWords("A X BC", "AB X C"),
	} {
		same(t, "right", impl.CrossRight(list), true)
		same(t, "right plainly", crossPlainly(list), true)
		checkBothWays(t, list)
	}
	for _, list := range [][]impl.Cross{
		{{}},
		crossOfWords("A X P", "A X P"),
		crossOfWords("A X P", "A X Q"),
		crossOfWords("A X P", "A Y P"),
		crossOfWords("A X P", "A Y Q", "A Z P"),
		crossOfWords("A Y P", "A X Q"),
		crossOfWords("B X P", "A X P"),
		crossOfWords("B X P", "A Y P"),
		crossOfWords("A AA P", "A A- Q"),
		crossOfWords("AB A P", "A Z P"),
		crossOfWords("A X P", "B X P", "A X P"),
	} {
		same(t, "wrong", impl.CrossRight(list), false)
		same(t, "wrong plainly", crossPlainly(list), false)
	}
}

func TestNamesOfCrosses(t *testing.T) {
	for _, name := range wrongNames {
		for _, c := range []impl.Cross{cross(name, "X", "P"), cross("B", name, "P"), cross("B", "X", name)} {
			lists := [][]impl.Cross{{c}, {cross("A", "X", "P"), c}, {c, cross("Z", "X", "P")}}
			for _, list := range lists {
				same(t, "right", impl.CrossRight(list), false)
				for _, asked := range []impl.Cross{c, cross("A", "X", "P"), cross("B", "X", "P"), cross("C", "Q", "R")} {
					checkCrosses(t, list, asked)
				}
			}
			for _, list := range [][]impl.Cross{nil, crossOfWords("A X P"), crossOfWords("B X P"), crossOfWords("B X P", "Z X P")} {
				sameCrosses(t, "no such one is put", impl.CrossPut(list, c), list)
				checkCrosses(t, list, c)
			}
		}
	}
}

// Promise 10, over every short list, right or not, and every one that is put there or asked of it.
func TestEveryShortListLeadsBothWays(t *testing.T) {
	few := fewCrosses()
	rights := 0
	for _, text := range textsOf("01234567", 4) {
		var list []impl.Cross
		for at := range len(text) {
			list = append(list, few[text[at]-'0'])
		}
		if got, want := impl.CrossRight(list), crossPlainly(list); got != want {
			t.Errorf("%v: right is %v, want %v", list, got, want)
		}
		if !crossPlainly(list) {
			checkCrosses(t, list, few[len(text)])
			continue
		}
		rights++
		checkBothWays(t, list)
		for _, c := range append(few, cross("A", "X", "Q"), cross("AB", "W", "Q"), cross("B", "X", "Y"), cross("AA", "P", "X")) {
			checkCrosses(t, list, c)
			behind := impl.CrossPut(list, c)
			same(t, "right behind a put", impl.CrossRight(behind), true)
			checkBothWays(t, behind)
			behind = impl.CrossDrop(list, c.Partner, c.Theirs)
			same(t, "right behind a drop", impl.CrossRight(behind), true)
			same(t, "led no more", impl.CrossOwn(behind, c.Partner, c.Theirs), c.Theirs)
			checkBothWays(t, behind)
		}
	}
	// Of each partner: none, four single ones, two pairs.
	same(t, "rights", rights, 7*7)
}

func TestCrossesLead(t *testing.T) {
	list := crossOfWords("A X Y", "A Y X", "A Z P", "B X P")
	for _, want := range [][3]string{
		{"A", "X", "Y"}, {"A", "Y", "X"}, {"A", "Z", "P"}, {"A", "P", "P"}, {"A", "W", "W"},
		{"B", "X", "P"}, {"B", "Y", "Y"}, {"B", "P", "P"}, {"C", "X", "X"},
	} {
		same(t, "own", impl.CrossOwn(list, want[0], want[1]), want[2])
	}
	for _, want := range [][3]string{
		{"A", "X", "Y"}, {"A", "Y", "X"}, {"A", "P", "Z"}, {"A", "Z", "Z"}, {"A", "W", "W"},
		{"B", "P", "X"}, {"B", "X", "X"}, {"B", "Y", "Y"}, {"C", "P", "P"},
	} {
		same(t, "theirs", impl.CrossTheirs(list, want[0], want[1]), want[2])
	}
	near := crossOfWords("A BC P", "AB C Q")
	same(t, "the cut between the two counts", impl.CrossOwn(near, "A", "BC")+impl.CrossOwn(near, "AB", "C"), "PQ")
	same(t, "of nothing", impl.CrossOwn(nil, "A", "X")+impl.CrossTheirs(nil, "A", "P"), "XP")
}

// What is no name is led to by no Cross: it is told itself.
func TestTextsThatAreNoNamesAreToldThemselves(t *testing.T) {
	list := crossOfWords("A X P")
	long := strings.Repeat("x", impl.MaxBytes)
	for _, name := range []string{"", "x", "A B", "Ä\xff", "ABCDEFGHIJKLM", long} {
		for _, right := range [][]impl.Cross{nil, list} {
			same(t, "own", impl.CrossOwn(right, "A", name), name)
			same(t, "theirs", impl.CrossTheirs(right, "A", name), name)
			same(t, "own of such a partner", impl.CrossOwn(right, name, "X"), "X")
			same(t, "theirs of such a partner", impl.CrossTheirs(right, name, "P"), "P")
			sameCrosses(t, "drop", impl.CrossDrop(right, "A", name), right)
			sameCrosses(t, "drop of such a partner", impl.CrossDrop(right, name, "X"), right)
		}
	}
	for _, right := range [][]impl.Cross{nil, list, crossOfWords("B X P", "A X P")} {
		same(t, "own", impl.CrossOwn(right, "A", long+"x"), "")
		same(t, "theirs", impl.CrossTheirs(right, "A", long+"x"), "")
		same(t, "own of such a partner", impl.CrossOwn(right, long+"x", "X"), "")
		same(t, "theirs of such a partner", impl.CrossTheirs(right, long+"x", "P"), "")
		same(t, "drop", len(impl.CrossDrop(right, "A", long+"x")), 0)
		same(t, "drop of such a partner", len(impl.CrossDrop(right, long+"x", "X")), 0)
		sameCrosses(t, "a field is no text handed in as such", impl.CrossPut(right, cross("A", long+"x", "Q")), right)
	}
}

func TestCrossesArePutInTheirPlace(t *testing.T) {
	list := crossOfWords("B F P", "B H Q", "D F P")
	for _, want := range []struct {
		c    string
		list []impl.Cross
	}{
		{"A Z P", crossOfWords("A Z P", "B F P", "B H Q", "D F P")},
		{"B E R", crossOfWords("B E R", "B F P", "B H Q", "D F P")},
		{"B G R", crossOfWords("B F P", "B G R", "B H Q", "D F P")},
		{"B I R", crossOfWords("B F P", "B H Q", "B I R", "D F P")},
		{"C A P", crossOfWords("B F P", "B H Q", "C A P", "D F P")},
		{"E A P", crossOfWords("B F P", "B H Q", "D F P", "E A P")},
		{"B F R", crossOfWords("B F R", "B H Q", "D F P")},
		{"B H R", crossOfWords("B F P", "B H R", "D F P")},
		{"D F Q", crossOfWords("B F P", "B H Q", "D F Q")},
		{"B F P", list},
		{"B F Q", list},
		{"B H P", list},
		{"B G P", list},
		{"D A P", list},
		{"b G R", list},
		{"B g R", list},
		{"B G r", list},
	} {
		sameCrosses(t, want.c, impl.CrossPut(list, crossOfWords(want.c)[0]), want.list)
	}
	wrong := crossOfWords("B F P", "A F P")
	sameCrosses(t, "put to a wrong one", impl.CrossPut(wrong, cross("C", "F", "P")), wrong)
	sameCrosses(t, "put that would mend it", impl.CrossPut(crossOfWords("A X P", "A Y P"), cross("A", "Y", "Q")), crossOfWords("A X P", "A Y P"))
	sameCrosses(t, "drop from a wrong one", impl.CrossDrop(wrong, "A", "F"), wrong)
	sameCrosses(t, "drop", impl.CrossDrop(list, "B", "H"), crossOfWords("B F P", "D F P"))
	sameCrosses(t, "drop of none", impl.CrossDrop(list, "B", "Q"), list)
	sameCrosses(t, "drop of another partner's", impl.CrossDrop(list, "D", "H"), list)
}

func TestTheMostCrosses(t *testing.T) {
	full := manyCrosses(impl.MaxCross)
	same(t, "full", impl.CrossRight(full), true)
	checkBothWays(t, full)
	sameCrosses(t, "no place", impl.CrossPut(full, cross("A", "X", "P")), full)
	sameCrosses(t, "no place at the end", impl.CrossPut(full, cross("Z", "X", "P")), full)
	for _, at := range []int{0, 66, 67, 100, 199} {
		c := full[at]
		checkCrosses(t, full, c)
		c.Own = "NEW"
		checkCrosses(t, full, c)
		same(t, "in its place", impl.CrossPut(full, c)[at], c)
		less := impl.CrossDrop(full, c.Partner, c.Theirs)
		same(t, "one less", len(less), 199)
		sameCrosses(t, "put back", impl.CrossPut(less, full[at]), full)
	}
	for _, n := range []int{201, 202, 399, 400} {
		list := manyCrosses(n)
		same(t, "too many", impl.CrossRight(list), false)
		checkCrosses(t, list, list[0])
		checkCrosses(t, list, cross("A", "X", "P"))
		same(t, "as it is", len(impl.CrossPut(list, list[0])), n)
		same(t, "as it is", len(impl.CrossDrop(list, list[0].Partner, list[0].Theirs)), n)
		same(t, "told nothing", impl.CrossOwn(list, "ACME", "W")+impl.CrossTheirs(list, "ACME", "W"), "")
	}
	for _, n := range []int{401, 1000} {
		list := manyCrosses(n)
		same(t, "too long", impl.CrossRight(list), false)
		checkCrosses(t, list, list[0])
		same(t, "refused", len(impl.CrossPut(list, list[0])), 0)
		same(t, "refused", len(impl.CrossDrop(list, list[0].Partner, list[0].Theirs)), 0)
	}
}

// Crosses put one by one, in any order, come to one list, whose drops lead back to none.
func TestPutsInAnyOrder(t *testing.T) {
	want := manyCrosses(60)
	for _, step := range []int{1, 7, 11, 59} {
		var list []impl.Cross
		for at := range want {
			c := want[(at*step+5)%60]
			list = impl.CrossPut(list, cross(c.Partner, c.Theirs, "FIRST"+number(int64(at))))
			list = impl.CrossPut(list, c)
			same(t, "so far", len(list), at+1)
			checkBothWays(t, list)
		}
		sameCrosses(t, "in the end", list, want)
		for at := range want {
			c := want[(at*step+31)%60]
			list = impl.CrossDrop(list, c.Partner, c.Theirs)
			same(t, "left", len(list), 59-at)
			same(t, "neither way", impl.CrossOwn(list, c.Partner, c.Theirs)+impl.CrossTheirs(list, c.Partner, c.Own), c.Theirs+c.Own)
			checkBothWays(t, list)
		}
	}
}

// sharesCross: lies a text of got within one of given?
func sharesCross(got []impl.Cross, given []impl.Cross) bool {
	for _, a := range got {
		for _, b := range given {
			for _, text := range []string{a.Partner, a.Theirs, a.Own} {
				if within(text, b.Partner) || within(text, b.Theirs) || within(text, b.Own) {
					return true
				}
			}
		}
	}
	return false
}

func TestCrossesAreNewMemory(t *testing.T) {
	c := cross(strings.Clone("B"), strings.Clone("X2"), strings.Clone("Q"))
	wrong := crossOfWords("A X1 P", "A X1 P")
	for _, list := range [][]impl.Cross{crossOfWords("A X1 P", "B X1 P", "C X1 P"), wrong, crossOfWords("B X2 P"), crossOfWords("B X1 Q")} {
		given := slices.Clone(list)
		list = append(make([]impl.Cross, 0, 100), list...)
		for range 2 {
			for _, answer := range [][]impl.Cross{
				impl.CrossPut(list, c), impl.CrossDrop(list, "B", "X1"), impl.CrossDrop(list, "N", "X1"),
			} {
				same(t, "shared", sharesCross(answer, append(list, c)), false)
				for at := range answer {
					answer[at] = impl.Cross{}
				}
				_ = append(answer, impl.Cross{})
				sameCrosses(t, "not changed", list, given)
			}
			same(t, "nothing behind it", list[:100][len(list)+1:], make([]impl.Cross, 99-len(list)))
		}
	}
	list := crossOfWords("A X1 P1")
	for _, name := range []string{strings.Clone("X1"), strings.Clone("P1"), strings.Clone("W")} {
		for _, told := range []string{impl.CrossOwn(list, "A", name), impl.CrossTheirs(list, "A", name)} {
			same(t, "shared", within(told, name) || sharesCross([]impl.Cross{{Own: told}}, list), false)
		}
	}
}
