package tests

import (
	"math"
	"slices"
	"strings"
	"testing"

	"loop.example/g00649/impl"
)

// search looks for what the document asks of the places of a word, one by one, as far ahead as they can differ: the stem, and the loop more than once.
type search struct {
	f     []impl.Said
	parts [][]int
	word  []int
	ahead func(k int) int
	known map[[2]int]bool
}

func newSearch(f []impl.Said, l impl.Lasso) search { return newSearchOf(f, l, 2500) }

// newSearchOf has so many letters of the word.
func newSearchOf(f []impl.Said, l impl.Lasso, letters int) search {
	return search{
		f:     f,
		parts: saidParts(f),
		word:  wordWant(l, letters),
		ahead: func(k int) int { return max(k, len(l.Stem)) + 2*len(l.Loop) },
		known: map[[2]int]bool{},
	}
}

func (s search) holds(k int) bool { return s.node(len(s.f)-1, k) }

func (s search) node(node, k int) bool {
	at := [2]int{node, k}
	if _, is := s.known[at]; !is {
		s.known[at] = s.look(node, k)
	}
	return s.known[at]
}

func (s search) look(node, k int) bool {
	n := s.f[node]
	part := func(which, m int) bool { return s.node(s.parts[node][which], m) }
	switch n.Op {
	case impl.FAtom:
		return s.word[k]&(1<<n.N) != 0
	case impl.FYes:
		return n.N == 1
	case impl.FNot:
		return !part(0, k)
	case impl.FNext:
		return part(0, k+1)
	case impl.FAnd:
		return part(0, k) && part(1, k)
	case impl.FOr:
		return part(0, k) || part(1, k)
	case impl.FUntil:
		return s.until(part, k)
	}
	return s.release(part, k)
}

func (s search) until(part func(which, m int) bool, k int) bool {
	all := true
	for m := k; m < s.ahead(k); m++ {
		if part(1, m) && all {
			return true
		}
		all = all && part(0, m)
	}
	return false
}

func (s search) release(part func(which, m int) bool, k int) bool {
	some := false
	for m := k; m < s.ahead(k); m++ {
		if !part(1, m) && !some {
			return false
		}
		some = some || part(0, m)
	}
	return true
}

func checkHoldsAt(t *testing.T, f []impl.Said, l impl.Lasso, k int, want bool) {
	t.Helper()
	oneTold(t, want, "HoldsAt", saidWritten(f), l, k)(impl.HoldsAt(f, l, k))
}

// checkSays asks at the places from 0 on, and holds the search itself against what is said by hand.
func checkSays(t *testing.T, text string, l impl.Lasso, want string) {
	t.Helper()
	f := said(text)
	whole := newSearch(f, l)
	for k, c := range []byte(want) {
		checkHoldsAt(t, f, l, k, c == '1')
		if whole.holds(k) != (c == '1') {
			t.Errorf("the search for %s of %v at %d: not %c", text, l, k, c)
		}
	}
	for k := range 2 * (len(l.Stem) + len(l.Loop)) {
		checkHoldsAt(t, f, l, k, whole.holds(k))
	}
}

func TestHoldsAtOfLeavesByHand(t *testing.T) {
	l := lasso([]int{1, 2, 4}, 3, 0, 7)
	checkSays(t, "p", l, "100101101101")
	checkSays(t, "q", l, "010101101101")
	checkSays(t, "r", l, "001001001001")
	checkSays(t, "1", l, "111111111111")
	checkSays(t, "0", l, "000000000000")
	for letter := range 8 {
		for n, name := range []string{"p", "q", "r"} {
			is := letter>>n&1 == 1
			checkHoldsAt(t, said(name), lasso(nil, letter), 0, is)
			checkHoldsAt(t, said(name), lasso([]int{letter}, 7-letter), 0, is)
			checkHoldsAt(t, said(name), lasso([]int{letter}, 7-letter), 1, !is)
			checkHoldsAt(t, said("!"+name), lasso([]int{7 - letter}, letter), 1, !is)
		}
	}
}

func TestHoldsAtOfNotAndOrByHand(t *testing.T) {
	l := lasso([]int{0, 1}, 2, 3)
	checkSays(t, "!p", l, "101010")
	checkSays(t, "!!p", l, "010101")
	checkSays(t, "!1", l, "000000")
	checkSays(t, "!0", l, "111111")
	checkSays(t, "(p&q)", l, "000101")
	checkSays(t, "(p|q)", l, "011111")
	checkSays(t, "(!p&q)", l, "001010")
	checkSays(t, "(p|!q)", l, "110101")
	checkSays(t, "((p&q)|(!p&!q))", l, "100101")
	checkSays(t, "(p&1)", l, "010101")
	checkSays(t, "(0|q)", l, "001111")
}

func TestHoldsAtOfNextByHand(t *testing.T) {
	l := lasso([]int{0, 0}, 1, 0)
	checkSays(t, "Xp", l, "01010101")
	checkSays(t, "XXp", l, "10101010")
	checkSays(t, "X!p", l, "10101010")
	checkSays(t, "!Xp", l, "10101010")
	checkSays(t, "X1", l, "11111111")
	checkSays(t, "X0", l, "00000000")
	// the last place of the loop goes on with its first one, not with the stem's
	checkSays(t, "Xp", lasso([]int{1}, 0, 0), "0000000")
	checkSays(t, "Xp", lasso([]int{0}, 1, 0, 0), "1001001")
	checkSays(t, "XXp", lasso([]int{0, 1}, 1, 0, 0), "1001001")
	checkSays(t, "XXXp", lasso([]int{0, 1}, 0, 0, 1), "0100100")
	for _, name := range []string{"p", "!p", "Xp", "XXXXp"} {
		checkSays(t, name, lasso(nil, 1), strings.Repeat(map[bool]string{true: "1", false: "0"}[name != "!p"], 5))
	}
	long := append(make([]int, 23), 1)
	for count := range 16 {
		f := turned(said("p"), 'X', count)
		for k := range 60 {
			checkHoldsAt(t, f, lasso(nil, long...), k, (k+count)%24 == 23)
			checkHoldsAt(t, f, lasso(long, 0), k, k+count == 23)
			checkHoldsAt(t, f, lasso(make([]int, 24), long...), k, k+count >= 24 && (k+count)%24 == 23)
		}
	}
}

func TestHoldsAtOfUntilByHand(t *testing.T) {
	// late in the loop, and by way of its begin
	checkSays(t, "(pUq)", lasso(nil, 1, 1, 1, 1, 2), "111111111111")
	checkSays(t, "(pUq)", lasso(nil, 1, 1, 0, 1, 2), "000110001100011")
	checkSays(t, "(pUq)", lasso(nil, 2, 1, 1), "111111111")
	checkSays(t, "(pUq)", lasso(nil, 2, 1, 0), "100100100")
	checkSays(t, "(pUq)", lasso([]int{1, 0, 1}, 1, 2, 1), "001111111")
	checkSays(t, "(pUq)", lasso([]int{1, 1}, 1, 1), "000000000")
	checkSays(t, "(pUq)", lasso([]int{1, 1}, 0, 2), "000101010")
	// the second part at the place itself is enough
	checkSays(t, "(pUq)", lasso([]int{2, 0, 2}, 0), "101000")
	checkSays(t, "(0Uq)", lasso([]int{2, 0, 2}, 0, 2), "1010101")
	// what is ahead of the place counts no more
	checkSays(t, "(pUq)", lasso([]int{2, 1}, 1), "10000")
	checkSays(t, "(1Uq)", lasso([]int{0, 2, 0}, 0), "110000")
	checkSays(t, "(1Uq)", lasso([]int{2}, 0, 0), "100000")
	checkSays(t, "(1Uq)", lasso([]int{2}, 0, 2), "111111")
	checkSays(t, "(1Uq)", lasso([]int{2, 2}, 1), "110000")
	// loops of one letter
	checkSays(t, "(pUq)", lasso(nil, 1), "0000")
	checkSays(t, "(pUq)", lasso(nil, 2), "1111")
	checkSays(t, "(pUq)", lasso(nil, 3), "1111")
	checkSays(t, "(pUq)", lasso([]int{1}, 2), "1111")
	checkSays(t, "(pUq)", lasso([]int{0}, 2), "0111")
	checkSays(t, "(pU1)", lasso(nil, 0), "1111")
	checkSays(t, "(1U0)", lasso(nil, 7), "0000")
}

func TestHoldsAtOfReleaseByHand(t *testing.T) {
	// the second part holds on and on, or up to where the first one holds too
	checkSays(t, "(pRq)", lasso(nil, 2), "1111")
	checkSays(t, "(pRq)", lasso(nil, 1), "0000")
	checkSays(t, "(pRq)", lasso(nil, 3), "1111")
	checkSays(t, "(pRq)", lasso([]int{2, 2, 3}, 0), "111000")
	checkSays(t, "(pRq)", lasso([]int{2, 2, 1}, 0), "000000")
	checkSays(t, "(pRq)", lasso([]int{2, 2}, 2), "111111")
	checkSays(t, "(pRq)", lasso([]int{2, 2}, 2, 0), "0000000")
	checkSays(t, "(pRq)", lasso([]int{2, 2}, 2, 2, 3, 0), "1111101110")
	checkSays(t, "(pRq)", lasso(nil, 2, 3, 0, 2, 2), "1101111011")
	checkSays(t, "(pRq)", lasso(nil, 2, 2, 2, 2, 3), "1111111111")
	checkSays(t, "(pRq)", lasso(nil, 2, 2, 2, 2, 0), "0000000000")
	// what is ahead of the place counts no more: neither the one that freed it nor the one that failed
	checkSays(t, "(pRq)", lasso([]int{3, 2}, 0), "10000")
	checkSays(t, "(pRq)", lasso([]int{3, 2, 2}, 1), "10000")
	checkSays(t, "(pRq)", lasso([]int{1, 0}, 2), "001111")
	checkSays(t, "(0Rq)", lasso([]int{0, 2, 0}, 2, 2), "000111")
	checkSays(t, "(0Rq)", lasso([]int{2}, 2, 0), "00000")
	checkSays(t, "(1Rq)", lasso([]int{2}, 2, 0), "1101010")
	checkSays(t, "(pR0)", lasso(nil, 1), "0000")
	checkSays(t, "(pR1)", lasso(nil, 0), "1111")
}

func TestHoldsAtOfNestedByHand(t *testing.T) {
	// again and again, and from some place on
	checkSays(t, "(0R(1Up))", lasso([]int{1, 1}, 0), "000000")
	checkSays(t, "(0R(1Up))", lasso([]int{0, 0}, 0, 0, 1), "11111111")
	checkSays(t, "(1U(0Rp))", lasso([]int{0, 0}, 1), "111111")
	checkSays(t, "(1U(0Rp))", lasso([]int{1, 1}, 0, 1, 1), "00000000")
	checkSays(t, "(0Rp)", lasso([]int{1, 0, 1}, 1), "001111")
	checkSays(t, "((pUq)Ur)", lasso([]int{1, 2, 1, 2}, 4, 0), "11111010")
	checkSays(t, "((pUq)Ur)", lasso([]int{1, 2, 1, 0}, 4, 0), "00001010")
	checkSays(t, "(pU(qUr))", lasso([]int{1, 1, 2, 2}, 4), "1111111")
	checkSays(t, "(pU(qUr))", lasso([]int{1, 2, 1, 2}, 4), "0011111")
	checkSays(t, "(pU(qRr))", lasso(nil, 1, 1, 4, 6, 0), "1111011110")
	checkSays(t, "((pRq)R(qUr))", lasso(nil, 2, 2, 2, 4), "11111111")
	checkSays(t, "((pRq)R(qUr))", lasso(nil, 2, 2, 0, 4), "00000000")
	checkSays(t, "((pRq)R(qUr))", lasso([]int{4, 7}, 0), "11000")
	checkSays(t, "((pRq)R(qUr))", lasso([]int{4, 3}, 0), "00000")
	checkSays(t, "((1Ur)&(0R(!r|X!r)))", lasso([]int{4}, 0, 0, 4), "1111111")
	checkSays(t, "(0R(!p|X(!pUq)))", lasso(nil, 1, 0, 2), "111111111")
	checkSays(t, "(0R(!p|X(!pUq)))", lasso([]int{1, 0, 1, 2}, 1, 2), "01111111")
}

func TestHoldsAtOfPlacesThatAreNone(t *testing.T) {
	for _, text := range []string{"1", "p", "!q", "X1", "(1U1)", "(1R1)"} {
		for _, l := range []impl.Lasso{lasso(nil, 1), lasso([]int{1, 1}, 1, 1, 1), lasso(waves(24), waves(24)...)} {
			for _, k := range []int{-1, -2, -24, 1001, 1002, 1 << 32, 1 << 40, math.MinInt, math.MaxInt} {
				noOneTold[bool](t, "HoldsAt", text, l, k)(impl.HoldsAt(said(text), l, k))
			}
		}
	}
	l := lasso([]int{0}, 1, 2, 4)
	for _, k := range []int{0, 1, 997, 998, 999, 1000} {
		whole := newSearch(said("(pUq)"), l)
		checkHoldsAt(t, said("(pUq)"), l, k, whole.holds(k))
		checkHoldsAt(t, said("p"), l, k, k%3 == 1)
		checkHoldsAt(t, said("Xp"), l, k, k%3 == 0)
		checkHoldsAt(t, said("r"), l, k, k > 0 && k%3 == 0)
	}
}

func TestHoldsAtOfLassosThatAreNotGood(t *testing.T) {
	for _, bad := range []impl.Lasso{{}, lasso([]int{1}), lasso([]int{1}, 2, 8), lasso([]int{-1}, 2, 3), lasso(nil, waves(25)...), lasso(waves(25), 2, 3)} {
		for _, text := range []string{"1", "p", "Xq", "(1U1)"} {
			for _, k := range []int{0, 1, 25, 1000, 1001, -1} {
				noOneTold[bool](t, "HoldsAt", text, bad, k)(impl.HoldsAt(said(text), bad, k))
			}
		}
	}
}

// somePlaces are in the stem, at its end, at the end of the loop, and in later rounds.
func (d drawer) somePlaces(l impl.Lasso) []int {
	stem, round := len(l.Stem), len(l.Loop)
	return []int{0, 1, max(0, stem-1), stem, stem + 1, stem + round - 1, stem + round, stem + d.Intn(round), stem + d.Intn(3*round), d.Intn(1001), 1000}
}

func TestHoldsAtOfDrawnFormulas(t *testing.T) {
	counts := map[bool]int{}
	everySaid(230, 4000, func(d drawer, f []impl.Said) {
		l := d.lasso()
		whole := newSearch(f, l)
		for _, k := range d.somePlaces(l) {
			want := whole.holds(k)
			counts[want]++
			checkHoldsAt(t, f, l, k, want)
		}
	})
	if counts[true] < 10000 || counts[false] < 10000 {
		t.Error("too few of a sort", counts)
	}
}

// FUntil and FRelease within one another, in loops where the parts come true seldom.
func TestHoldsAtOfNestedUntilAndRelease(t *testing.T) {
	d := newDrawer(231)
	ops := []string{"U", "R"}
	atoms := []string{"p", "q", "r", "!p", "!q", "!r", "Xq"}
	atom := func() string { return atoms[d.Intn(len(atoms))] }
	for range 400 {
		l := impl.Lasso{Stem: d.letters(d.Intn(6), 8), Loop: d.letters(1+d.Intn(12), 8)}
		kept := d.Intn(8)
		for k := range l.Loop {
			if d.Intn(3) > 0 {
				l.Loop[k] = kept
			}
		}
		for shape := range 8 {
			a, b, c := ops[shape&1], ops[shape>>1&1], ops[shape>>2]
			for _, text := range []string{
				"((" + atom() + a + atom() + ")" + b + atom() + ")",
				"(" + atom() + a + "(" + atom() + b + atom() + "))",
				"((" + atom() + a + atom() + ")" + b + "(" + atom() + c + atom() + "))",
				"(" + atom() + a + "X((" + atom() + b + atom() + ")" + c + atom() + "))",
			} {
				f := said(text)
				whole := newSearch(f, l)
				for k := range len(l.Stem) + len(l.Loop) + 2 {
					checkHoldsAt(t, f, l, k, whole.holds(k))
				}
			}
		}
	}
}

// All formulas with few nodes and all lassos with few letters.
func TestHoldsAtOfShortFormulas(t *testing.T) {
	sorts := [][][]impl.Said{nil, {said("p"), said("q"), said("1")}}
	for size := 2; size <= 4; size++ {
		var more [][]impl.Said
		for _, sign := range []byte("!X") {
			for _, f := range sorts[size-1] {
				more = append(more, turned(f, sign, 1))
			}
		}
		for first := 1; first < size-1; first++ {
			for _, f := range sorts[first] {
				for _, g := range sorts[size-1-first] {
					for _, sign := range []byte("&UR") {
						more = append(more, slices.Concat(f, g, []impl.Said{saidNodes[sign]}))
					}
				}
			}
		}
		sorts = append(sorts, more)
	}
	var lassos []impl.Lasso
	for size := 1; size <= 3; size++ {
		for bits := range 1 << (2 * size) {
			var list []int
			for k := range size {
				list = append(list, bits>>(2*k)&3)
			}
			for stem := range size {
				lassos = append(lassos, lasso(list[:stem], list[stem:]...))
			}
		}
	}
	for _, f := range slices.Concat(sorts...) {
		for _, l := range lassos {
			whole := newSearchOf(f, l, 40)
			for k := range 4 {
				if is, ok := impl.HoldsAt(f, l, k); is != whole.holds(k) || !ok {
					t.Fatalf("%s of %v at %d: %v, %v", saidWritten(f), l, k, is, ok)
				}
			}
		}
	}
}

// What holds at a place holds at place 0 of the word from there on, and of all lassos of one word alike.
func TestHoldsAtOfOneWord(t *testing.T) {
	counts := map[bool]int{}
	everySaid(232, 3000, func(d drawer, f []impl.Said) {
		l := d.lasso()
		other := d.retold(l)
		for _, k := range d.somePlaces(l) {
			is, ok := impl.HoldsAt(f, l, k)
			suffix, ok2 := impl.SuffixOf(l, k)
			if !ok || !ok2 {
				t.Errorf("%s of %v at %d: %v, %v", saidWritten(f), l, k, ok, ok2)
			}
			checkHoldsAt(t, f, suffix, 0, is)
			checkHoldsAt(t, f, other, k, is)
			counts[is]++
		}
		least, _ := impl.LeastLasso(l)
		first, _ := impl.HoldsAt(f, l, 0)
		checkHoldsAt(t, f, least, 0, first)
		if turn, ok := impl.TurnLoop(l); ok {
			checkHoldsAt(t, f, turn, 0, first)
		}
	})
	if counts[true] < 5000 || counts[false] < 5000 {
		t.Error("too few of a sort", counts)
	}
}

// Promise 10: where a letter stands twice nothing is told apart but by FNext.
func TestFormulasWithoutNextTellNoLetterThatStandsTwice(t *testing.T) {
	counts := map[string]int{}
	d := newDrawer(233)
	for range 5000 {
		f, with := d.said(1+d.Intn(16), withoutNext), d.said(2+d.Intn(15), allSigns)
		l := d.lasso()
		for _, k := range []int{0, 1, max(0, len(l.Stem)-1), len(l.Stem), d.Intn(24), len(l.Stem) + d.Intn(len(l.Loop))} {
			twice, ok := impl.StutterAt(l, k)
			if !ok {
				continue
			}
			is, _ := impl.HoldsAt(f, l, 0)
			checkHoldsAt(t, f, twice, 0, is)
			counts[map[bool]string{true: "holds", false: "does not"}[is]]++
			one, _ := impl.HoldsAt(with, l, 0)
			other, _ := impl.HoldsAt(with, twice, 0)
			if one != other {
				counts["told apart by FNext"]++
			}
		}
	}
	for sort, least := range map[string]int{"holds": 5000, "does not": 5000, "told apart by FNext": 200} {
		if counts[sort] < least {
			t.Error("too few of a sort", sort, counts)
		}
	}
}

// Promise 10: FUntil and FRelease are told by the place and by the next one.
func TestUntilAndReleaseUnroll(t *testing.T) {
	counts := map[[4]bool]int{}
	d := newDrawer(234)
	for range 3000 {
		first, second := d.said(1+d.Intn(7), allSigns), d.said(1+d.Intn(7), allSigns)
		l := d.lasso()
		until := slices.Concat(first, second, []impl.Said{{Op: impl.FUntil}})
		release := slices.Concat(first, second, []impl.Said{{Op: impl.FRelease}})
		for _, k := range d.somePlaces(l) {
			k = min(k, 999)
			a, _ := impl.HoldsAt(first, l, k)
			b, _ := impl.HoldsAt(second, l, k)
			untilNext, _ := impl.HoldsAt(until, l, k+1)
			releaseNext, _ := impl.HoldsAt(release, l, k+1)
			checkHoldsAt(t, until, l, k, b || a && untilNext)
			checkHoldsAt(t, release, l, k, b && (a || releaseNext))
			counts[[4]bool{a, b, untilNext, releaseNext}]++
		}
	}
	// whether the place alone tells it, or the next one does, and how
	for _, sort := range [][4]bool{{true, false, true, false}, {true, false, false, false}, {false, true, true, true}, {false, true, true, false}, {false, false, true, true}, {true, true, false, false}} {
		if counts[sort] < 200 {
			t.Error("too few of a sort", sort, counts)
		}
	}
}

// A part that comes true just once, anywhere, seen from each place.
func TestUntilWhoseSecondPartComesOnce(t *testing.T) {
	for stem := range 4 {
		for loop := 1; loop <= 24; loop += 1 + loop/6 {
			for at := range stem + loop {
				list := slices.Repeat([]int{1}, stem+loop)
				list[at] = 2
				l := lasso(list[:stem], list[stem:]...)
				for k := range stem + 2*loop + 1 {
					checkHoldsAt(t, said("(pUq)"), l, k, at >= stem || k <= at)
					checkHoldsAt(t, said("(!pR!q)"), l, k, at < stem && k > at)
				}
			}
		}
	}
}
