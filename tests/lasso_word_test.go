package tests

import (
	"slices"
	"testing"

	"loop.example/g00649/impl"
)

// farEnough is more letters than two unlike words begin with in common: behind both stems they go round together by at most 24 times 23 letters.
const farEnough = 24 + 24*23

// letters draws so many of the first few letters: of few ones words come out the same more often.
func (d drawer) letters(count, few int) []int {
	var list []int
	for range count {
		list = append(list, d.Intn(few))
	}
	return list
}

// lasso draws a good one, at times with a loop of several rounds, or with a stem that goes on into it.
func (d drawer) lasso() impl.Lasso {
	few := d.of([]int{1, 2, 2, 3, 8})
	loop := d.letters(1+d.Intn(d.of([]int{2, 4, 8, 24})), few)
	if d.Intn(3) == 0 {
		loop = slices.Repeat(loop, 1+d.Intn(24/len(loop)))
	}
	stem := d.letters(d.Intn(d.of([]int{1, 3, 9, 25})), few)
	l := impl.Lasso{Stem: stem, Loop: loop}
	for d.Intn(2) == 0 && len(l.Stem) < 24 {
		l = turnWant(l)
	}
	return l
}

func everyLasso(seed int64, count int, f func(d drawer, l impl.Lasso)) {
	d := newDrawer(seed)
	for range count {
		f(d, d.lasso())
	}
}

func turnWant(l impl.Lasso) impl.Lasso {
	first := l.Loop[0]
	return impl.Lasso{Stem: append(slices.Clone(l.Stem), first), Loop: append(slices.Clone(l.Loop[1:]), first)}
}

// goesRound tells whether the word, from a place on, goes round by so many letters, as far as it is laid out.
func goesRound(word []int, from, round int) bool {
	for k := from; k+round < len(word); k++ {
		if word[k] != word[k+round] {
			return false
		}
	}
	return true
}

// leastWant tries all loops, the short ones first, and for each all stems.
func leastWant(l impl.Lasso) impl.Lasso {
	word := wordWant(l, farEnough+24)
	for round := 1; round <= 24; round++ {
		for stem := range 25 {
			if goesRound(word, stem, round) {
				return impl.Lasso{Stem: word[:stem], Loop: word[stem : stem+round]}
			}
		}
	}
	return impl.Lasso{}
}

// retold is another lasso of the same word, where there is room for one.
func (d drawer) retold(l impl.Lasso) impl.Lasso {
	least := leastWant(l)
	round, stem := len(least.Loop), len(least.Stem)
	rounds, more := 1+d.Intn(24/round), d.Intn(25-stem)
	word := wordWant(l, stem+more+rounds*round)
	return impl.Lasso{Stem: slices.Clone(word[:stem+more]), Loop: slices.Clone(word[stem+more:])}
}

// marredLetter has one letter changed.
func (d drawer) marredLetter(l impl.Lasso) impl.Lasso {
	l = impl.Lasso{Stem: slices.Clone(l.Stem), Loop: slices.Clone(l.Loop)}
	list := l.Loop
	if len(l.Stem) > 0 && d.Intn(2) == 0 {
		list = l.Stem
	}
	k := d.Intn(len(list))
	list[k] = (list[k] + 1 + d.Intn(7)) % 8
	return l
}

// checkOneWord is promise 9 for two lassos, and tells whether they have one word.
func checkOneWord(t *testing.T, a, b impl.Lasso) bool {
	t.Helper()
	want := slices.Equal(wordWant(a, farEnough), wordWant(b, farEnough))
	checkSame(t, a, b, want)
	leastA, ok := impl.LeastLasso(a)
	leastB, ok2 := impl.LeastLasso(b)
	if sameLasso(leastA, leastB) != want || !ok || !ok2 {
		t.Errorf("%v and %v: %v, %v, and %v, %v, but one word: %v", a, b, leastA, ok, leastB, ok2, want)
	}
	return want
}

// Promise 9, against the words' letters one by one.
func TestLassosHaveOneWordWhereTheirLeastOnesAreOne(t *testing.T) {
	counts := map[string]int{}
	everyLasso(201, 6000, func(d drawer, l impl.Lasso) {
		others := map[string]impl.Lasso{"drawn": d.lasso(), "retold": d.retold(l), "marred": d.marredLetter(l)}
		others["retold and marred"] = d.marredLetter(others["retold"])
		for _, sort := range []string{"drawn", "retold", "marred", "retold and marred"} {
			other := others[sort]
			same := checkOneWord(t, l, other)
			if same && len(l.Stem) != len(other.Stem) && len(l.Loop) != len(other.Loop) {
				counts[sort+", unlike stems and loops"]++
			}
			counts[sort+map[bool]string{true: ", the same", false: ", not the same"}[same]]++
		}
	})
	for sort, least := range map[string]int{"drawn, the same": 200, "drawn, not the same": 3000, "retold, the same": 6000, "retold, unlike stems and loops": 1000, "marred, not the same": 3000, "retold and marred, not the same": 3000} {
		if counts[sort] < least {
			t.Error("too few of a sort", sort, counts)
		}
	}
	if counts["retold, not the same"] > 0 {
		t.Error("not the same word", counts)
	}
}

// A loop told twice, a stem that goes on into the loop, and a loop that is turned.
func TestLassosOfOneWord(t *testing.T) {
	counts := [3]int{}
	everyLasso(202, 3000, func(_ drawer, l impl.Lasso) {
		others := [3]impl.Lasso{
			{Stem: l.Stem, Loop: slices.Concat(l.Loop, l.Loop)},
			{Stem: slices.Concat(l.Stem, l.Loop), Loop: l.Loop},
			turnWant(l),
		}
		for k, other := range others {
			if len(other.Stem) <= 24 && len(other.Loop) <= 24 {
				counts[k]++
				if !checkOneWord(t, l, other) {
					t.Errorf("not one word: %v and %v", l, other)
				}
			}
		}
	})
	for k, count := range counts {
		if count < 1000 {
			t.Error("too few of a sort", k, counts)
		}
	}
}

// alikeFor is a list of letters that goes round by both numbers, in which letters are unlike wherever they may be, up to 8 of them.
func alikeFor(length, p, q int) []int {
	list := make([]int, length)
	for k := range list {
		list[k] = k
	}
	for changed := true; changed; {
		changed = false
		for k := range list {
			for _, m := range []int{k + p, k + q} {
				if m < length && list[k] != list[m] {
					least := min(list[k], list[m])
					list[k], list[m], changed = least, least, true
				}
			}
		}
	}
	for k, first := range list {
		list[k] = min(first, 7)
	}
	return list
}

// firstUnlike is the first place where two words differ, -1 where there is none.
func firstUnlike(a, b impl.Lasso) int {
	one, other := wordWant(a, farEnough), wordWant(b, farEnough)
	for k := range one {
		if one[k] != other[k] {
			return k
		}
	}
	return -1
}

// Words that begin alike for as long as unlike ones can: their loops go on as one list does, behind stems that are one, or behind none, or where one has as a stem what the other one has in its loop.
func TestWordsThatDifferLate(t *testing.T) {
	latest := map[string]int{}
	for p := 2; p <= 24; p++ {
		for q := p + 1; q <= 24; q++ {
			for length := max(q, p+q-8); length < p+q; length++ {
				list := alikeFor(length, p, q)
				turned := lasso(nil, slices.Concat(list[q-24%q:q], list[:q-24%q])...)
				pairs := map[string][2]impl.Lasso{
					"no stems":        {lasso(nil, list[:p]...), lasso(nil, list[:q]...)},
					"one stem":        {lasso(waves(24), list[:p]...), lasso(waves(24), list[:q]...)},
					"a stem and none": {lasso(wordWant(turned, 24), list[:p]...), turned},
				}
				for name, pair := range pairs {
					checkOneWord(t, pair[0], pair[1])
					latest[name] = max(latest[name], firstUnlike(pair[0], pair[1]))
				}
			}
		}
	}
	if latest["no stems"] != 45 || latest["one stem"] != 24+45 || latest["a stem and none"] != 24+45 {
		t.Error("the latest unlike letters are", latest)
	}
}

// All lassos with few letters, against each other.
func TestAllShortLassos(t *testing.T) {
	var all []impl.Lasso
	for stem := range 4 {
		for loop := 1; loop <= 4; loop++ {
			for bits := range 1 << (stem + loop) {
				var list []int
				for k := range stem + loop {
					list = append(list, 7*(bits>>k&1))
				}
				all = append(all, lasso(list[:stem], list[stem:]...))
			}
		}
	}
	var words [][]int
	for _, l := range all {
		words = append(words, wordWant(l, 3+4*3))
		checkLeast(t, l, leastWant(l))
	}
	for k, a := range all {
		for m, b := range all[:k+1] {
			oneTold(t, slices.Equal(words[k], words[m]), "SameWord", a, b)(impl.SameWord(a, b))
		}
	}
}

func TestLeastLassoOfDrawnLassos(t *testing.T) {
	counts := map[string]int{}
	everyLasso(203, 6000, func(_ drawer, l impl.Lasso) {
		want := leastWant(l)
		checkLeast(t, l, want)
		checkLeast(t, want, want)
		checkSame(t, l, want, true)
		counts[map[bool]string{true: "least already", false: "not least"}[sameLasso(l, want)]]++
		if len(want.Loop) < len(l.Loop) && len(want.Stem) < len(l.Stem) {
			counts["shorter stem and loop"]++
		}
		if len(want.Stem) == 0 && len(l.Stem) > 0 {
			counts["no stem left"]++
		}
	})
	for _, sort := range []string{"least already", "not least", "shorter stem and loop", "no stem left"} {
		if counts[sort] < 300 {
			t.Error("too few of a sort", sort, counts)
		}
	}
}

func TestLettersOfDrawnLassos(t *testing.T) {
	everyLasso(204, 1500, func(d drawer, l impl.Lasso) {
		checkGoodLasso(t, l, true)
		word := wordWant(l, 1001)
		for _, k := range []int{0, max(0, len(l.Stem)-1), len(l.Stem), len(l.Stem) + 1, len(l.Stem) + len(l.Loop) - 1, len(l.Stem) + len(l.Loop), d.Intn(1001), 1000} {
			checkLetter(t, l, k, word[k])
			checkUnroll(t, l, k, word[:k]...)
		}
	})
}

func TestSuffixOfDrawnLassos(t *testing.T) {
	everyLasso(205, 2000, func(d drawer, l impl.Lasso) {
		stem, round := len(l.Stem), len(l.Loop)
		word := wordWant(l, 1000+farEnough)
		for _, k := range []int{0, max(0, stem-1), stem, stem + 1, stem + round, stem + round*(1+d.Intn(30)), d.Intn(1001), 1000} {
			want := impl.Lasso{Loop: word[k : k+round]}
			if k <= stem {
				want = impl.Lasso{Stem: l.Stem[k:], Loop: l.Loop}
			}
			checkSuffix(t, l, k, want)
			got, _ := impl.SuffixOf(l, k)
			if !slices.Equal(wordWant(got, farEnough), word[k:k+farEnough]) {
				t.Errorf("SuffixOf(%v, %d): %v is of another word", l, k, got)
			}
		}
	})
}

func TestTurnLoopOfDrawnLassos(t *testing.T) {
	counts := map[bool]int{}
	everyLasso(206, 3000, func(_ drawer, l impl.Lasso) {
		counts[len(l.Stem) < 24]++
		if len(l.Stem) == 24 {
			noLassoTold(t, "TurnLoop", l)(impl.TurnLoop(l))
			return
		}
		checkTurn(t, l, turnWant(l))
		turned, _ := impl.TurnLoop(l)
		checkSame(t, l, turned, true)
	})
	if counts[true] < 1000 || counts[false] < 20 {
		t.Error("too few of a sort", counts)
	}
}

// In the new word letter k stands twice, and all other letters are in their order.
func TestStutterAtOfDrawnLassos(t *testing.T) {
	counts := map[string]int{}
	everyLasso(207, 3000, func(d drawer, l impl.Lasso) {
		stem, round := len(l.Stem), len(l.Loop)
		word := wordWant(l, farEnough+100)
		for _, k := range []int{0, max(0, stem-1), stem, stem + d.Intn(round), stem + round, d.Intn(25), d.Intn(60)} {
			turn := max(stem, k)
			if turn >= 24 {
				counts["too long"]++
				noLassoTold(t, "StutterAt", l, k)(impl.StutterAt(l, k))
				continue
			}
			counts[map[bool]string{true: "in the stem", false: "in the loop"}[k < stem]]++
			twice := slices.Insert(slices.Clone(word), k, word[k])
			want := impl.Lasso{Stem: twice[:turn+1], Loop: twice[turn+1 : turn+1+round]}
			checkStutter(t, l, k, want)
			if !slices.Equal(wordWant(want, farEnough), twice[:farEnough]) {
				t.Errorf("StutterAt(%v, %d): %v is of another word", l, k, want)
			}
		}
	})
	for _, sort := range []string{"too long", "in the stem", "in the loop"} {
		if counts[sort] < 1000 {
			t.Error("too few of a sort", counts)
		}
	}
}
