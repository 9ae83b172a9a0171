package tests

import (
	"math"
	"slices"
	"testing"

	"loop.example/g00649/impl"
)

func lasso(stem []int, loop ...int) impl.Lasso { return impl.Lasso{Stem: stem, Loop: loop} }

// waves are so many letters, each unlike the one ahead of it.
func waves(count int) []int {
	var list []int
	for k := range count {
		list = append(list, k%7+1)
	}
	return list
}

// wordWant is the word of a good lasso laid out as far as asked.
func wordWant(l impl.Lasso, length int) []int {
	word := slices.Clone(l.Stem)
	for len(word) < length {
		word = append(word, l.Loop...)
	}
	return word[:length]
}

func sameLasso(a, b impl.Lasso) bool {
	return slices.Equal(a.Stem, b.Stem) && slices.Equal(a.Loop, b.Loop)
}

// lassoTold and noLassoTold are as listTold and noListTold.

func lassoTold(t *testing.T, want impl.Lasso, asked ...any) func(l impl.Lasso, ok bool) {
	return func(l impl.Lasso, ok bool) {
		t.Helper()
		if !sameLasso(l, want) || !ok {
			t.Errorf("%v: %v, %v, not %v", asked, l, ok, want)
		}
	}
}

func noLassoTold(t *testing.T, asked ...any) func(l impl.Lasso, ok bool) {
	return func(l impl.Lasso, ok bool) {
		t.Helper()
		if !sameLasso(l, impl.Lasso{}) || ok {
			t.Errorf("%v: %v, %v", asked, l, ok)
		}
	}
}

func checkGoodLasso(t *testing.T, l impl.Lasso, want bool) {
	t.Helper()
	if impl.GoodLasso(l) != want {
		t.Errorf("GoodLasso(%v): not %v", l, want)
	}
}

func checkLetter(t *testing.T, l impl.Lasso, k, want int) {
	t.Helper()
	oneTold(t, want, "LetterAt", l, k)(impl.LetterAt(l, k))
}

func checkUnroll(t *testing.T, l impl.Lasso, n int, want ...int) {
	t.Helper()
	listTold(t, want, "UnrollOf", l, n)(impl.UnrollOf(l, n))
}

func checkSuffix(t *testing.T, l impl.Lasso, k int, want impl.Lasso) {
	t.Helper()
	lassoTold(t, want, "SuffixOf", l, k)(impl.SuffixOf(l, k))
}

func checkSame(t *testing.T, a, b impl.Lasso, want bool) {
	t.Helper()
	oneTold(t, want, "SameWord", a, b)(impl.SameWord(a, b))
	oneTold(t, want, "SameWord", b, a)(impl.SameWord(b, a))
}

func checkLeast(t *testing.T, l, want impl.Lasso) {
	t.Helper()
	lassoTold(t, want, "LeastLasso", l)(impl.LeastLasso(l))
}

func checkTurn(t *testing.T, l, want impl.Lasso) {
	t.Helper()
	lassoTold(t, want, "TurnLoop", l)(impl.TurnLoop(l))
}

func checkStutter(t *testing.T, l impl.Lasso, k int, want impl.Lasso) {
	t.Helper()
	lassoTold(t, want, "StutterAt", l, k)(impl.StutterAt(l, k))
}

// silentPlace asks for the zero answer of each function that takes a place.
func silentPlace(t *testing.T, name string, l impl.Lasso, k int) {
	t.Helper()
	noOneTold[int](t, name, "LetterAt", l, k)(impl.LetterAt(l, k))
	noListTold(t, name, "UnrollOf", l, k)(impl.UnrollOf(l, k))
	noLassoTold(t, name, "SuffixOf", l, k)(impl.SuffixOf(l, k))
	noLassoTold(t, name, "StutterAt", l, k)(impl.StutterAt(l, k))
}

// silentLasso asks for the zero answer of each function of the chapter, at all sorts of places.
func silentLasso(t *testing.T, name string, l impl.Lasso) {
	t.Helper()
	checkGoodLasso(t, l, false)
	for _, k := range []int{0, 1, 2, 23, 24, 25, 500, 1000, 1001, -1, math.MinInt, math.MaxInt} {
		silentPlace(t, name, l, k)
	}
	for _, other := range []impl.Lasso{lasso(nil, 1), lasso(waves(24), waves(24)...), l, {}} {
		noOneTold[bool](t, name, "SameWord", l, other)(impl.SameWord(l, other))
		noOneTold[bool](t, name, "SameWord", other, l)(impl.SameWord(other, l))
	}
	noLassoTold(t, name, "LeastLasso", l)(impl.LeastLasso(l))
	noLassoTold(t, name, "TurnLoop", l)(impl.TurnLoop(l))
}

func TestLassoConstants(t *testing.T) {
	if impl.MaxStem != 24 || impl.MaxLoop != 24 || impl.Letters != 8 {
		t.Error(impl.MaxStem, impl.MaxLoop, impl.Letters)
	}
}

func TestGoodLassoByItsLengths(t *testing.T) {
	for _, stem := range []int{0, 1, 23, 24, 25, 26, 5000} {
		for _, loop := range []int{0, 1, 2, 23, 24, 25, 26, 5000} {
			l := lasso(waves(stem), waves(loop)...)
			want := stem <= 24 && loop >= 1 && loop <= 24
			checkGoodLasso(t, l, want)
			if !want {
				silentLasso(t, "lengths", l)
			}
		}
	}
	checkGoodLasso(t, impl.Lasso{}, false)
	checkGoodLasso(t, lasso([]int{}, 0), true)
}

func TestGoodLassoByItsLetters(t *testing.T) {
	for _, letter := range []int{-1, 0, 7, 8, 9, -8, 1 << 32, -1 << 32, math.MinInt, math.MaxInt} {
		want := letter >= 0 && letter < 8
		for _, length := range []int{1, 2, 3, 24} {
			for _, k := range []int{0, length / 2, length - 1} {
				with := waves(length)
				with[k] = letter
				for _, l := range []impl.Lasso{lasso(with, 3), lasso(with, waves(24)...), lasso(nil, with...), lasso(waves(24), with...), lasso(with, with...)} {
					checkGoodLasso(t, l, want)
					if !want {
						silentLasso(t, "letters", l)
					}
				}
			}
		}
	}
}

// One of two lassos that is not good is enough.
func TestSameWordOfOneThatIsNotGood(t *testing.T) {
	good := lasso([]int{1}, 2, 3)
	for _, bad := range []impl.Lasso{{}, lasso([]int{1}), lasso([]int{1}, 2, 8), lasso([]int{-1}, 2, 3), lasso(nil, waves(25)...), lasso(waves(25), 2, 3)} {
		noOneTold[bool](t, "SameWord", bad)(impl.SameWord(good, bad))
		noOneTold[bool](t, "SameWord", bad)(impl.SameWord(bad, good))
		noOneTold[bool](t, "SameWord", bad)(impl.SameWord(bad, bad))
	}
	checkSame(t, good, good, true)
}

func TestLettersByHand(t *testing.T) {
	l := lasso([]int{5, 0, 7}, 1, 2)
	for k, want := range []int{5, 0, 7, 1, 2, 1, 2, 1, 2} {
		checkLetter(t, l, k, want)
	}
	checkLetter(t, l, 999, 1)
	checkLetter(t, l, 1000, 2)
	checkUnroll(t, l, 0)
	checkUnroll(t, l, 1, 5)
	checkUnroll(t, l, 2, 5, 0)
	checkUnroll(t, l, 3, 5, 0, 7)
	checkUnroll(t, l, 4, 5, 0, 7, 1)
	checkUnroll(t, l, 5, 5, 0, 7, 1, 2)
	checkUnroll(t, l, 8, 5, 0, 7, 1, 2, 1, 2, 1)
	checkUnroll(t, lasso(nil, 6), 3, 6, 6, 6)
	checkUnroll(t, lasso(nil, 6), 0)
	checkLetter(t, lasso(nil, 6, 4, 3), 1000, 4)
	checkUnroll(t, lasso(nil, 6, 4, 3), 1000, slices.Repeat([]int{6, 4, 3}, 334)[:1000]...)
	full := lasso(waves(24), 0, 1, 2, 3, 4, 5, 6, 7, 0, 1, 2, 3, 4, 5, 6, 7, 0, 1, 2, 3, 4, 5, 6, 7)
	checkLetter(t, full, 23, 3)
	checkLetter(t, full, 24, 0)
	checkLetter(t, full, 47, 7)
	checkLetter(t, full, 48, 0)
	checkLetter(t, full, 1000, 0)
}

func TestPlacesThatAreNone(t *testing.T) {
	for _, l := range []impl.Lasso{lasso(nil, 1), lasso([]int{2, 3}, 4, 5), lasso(waves(24), waves(24)...)} {
		for _, k := range []int{-1, -2, -24, 1001, 1002, 1024, 1 << 32, 1 << 40, math.MinInt, math.MaxInt} {
			silentPlace(t, "no place", l, k)
		}
		for _, k := range []int{0, 1, 999, 1000} {
			word := wordWant(l, k+1)
			checkLetter(t, l, k, word[k])
			checkUnroll(t, l, k, word[:k]...)
		}
	}
}

func TestSuffixOfByHand(t *testing.T) {
	l := lasso([]int{1, 2, 3}, 4, 5, 6)
	checkSuffix(t, l, 0, l)
	checkSuffix(t, l, 1, lasso([]int{2, 3}, 4, 5, 6))
	checkSuffix(t, l, 2, lasso([]int{3}, 4, 5, 6))
	checkSuffix(t, l, 3, lasso(nil, 4, 5, 6))
	checkSuffix(t, l, 4, lasso(nil, 5, 6, 4))
	checkSuffix(t, l, 5, lasso(nil, 6, 4, 5))
	checkSuffix(t, l, 6, lasso(nil, 4, 5, 6))
	checkSuffix(t, l, 7, lasso(nil, 5, 6, 4))
	checkSuffix(t, l, 3+3*332, lasso(nil, 4, 5, 6))
	checkSuffix(t, l, 1000, lasso(nil, 5, 6, 4))
	// what is cut off changes nothing in what is left: a loop told twice stays so, and a stem that goes on into it too
	twice := lasso([]int{2, 1, 2}, 1, 2, 1, 2)
	checkSuffix(t, twice, 0, twice)
	checkSuffix(t, twice, 2, lasso([]int{2}, 1, 2, 1, 2))
	checkSuffix(t, twice, 4, lasso(nil, 2, 1, 2, 1))
	checkSuffix(t, lasso(nil, 5), 0, lasso(nil, 5))
	checkSuffix(t, lasso(nil, 5), 1000, lasso(nil, 5))
	checkSuffix(t, lasso(nil, 5, 6), 999, lasso(nil, 6, 5))
	full := lasso(waves(24), waves(24)...)
	checkSuffix(t, full, 24, lasso(nil, full.Loop...))
	checkSuffix(t, full, 25, lasso(nil, append(slices.Clone(full.Loop[1:]), 1)...))
	checkSuffix(t, full, 24+24*40, lasso(nil, full.Loop...))
}

func TestSameWordByHand(t *testing.T) {
	l := lasso([]int{1, 2}, 3, 4)
	for _, other := range []impl.Lasso{l, lasso([]int{1, 2}, 3, 4, 3, 4), lasso([]int{1, 2, 3}, 4, 3), lasso([]int{1, 2, 3, 4}, 3, 4), lasso([]int{1, 2, 3, 4, 3}, 4, 3, 4, 3, 4, 3)} {
		checkSame(t, l, other, true)
	}
	for _, other := range []impl.Lasso{lasso([]int{1}, 3, 4), lasso(nil, 3, 4), lasso([]int{1, 2}, 4, 3), lasso([]int{1, 2}, 3), lasso([]int{1, 2}, 3, 4, 3), lasso([]int{1, 2}, 3, 4, 4), lasso([]int{2, 1}, 3, 4), lasso([]int{1, 2, 3, 4}, 4, 3), lasso([]int{1, 2, 3}, 3, 4)} {
		checkSame(t, l, other, false)
	}
	checkSame(t, lasso(nil, 0), lasso(slices.Repeat([]int{0}, 24), slices.Repeat([]int{0}, 24)...), true)
	checkSame(t, lasso(nil, 0), lasso(slices.Repeat([]int{0}, 24), append(slices.Repeat([]int{0}, 23), 1)...), false)
	checkSame(t, lasso(nil, slices.Repeat([]int{5, 6}, 12)...), lasso(nil, slices.Repeat([]int{5, 6}, 11)...), true)
	checkSame(t, lasso(nil, slices.Repeat([]int{5, 6, 5}, 7)...), lasso([]int{5}, slices.Repeat([]int{6, 5, 5}, 8)...), true)
	checkSame(t, lasso(nil, slices.Repeat([]int{5, 6, 5}, 7)...), lasso([]int{5}, slices.Repeat([]int{5, 6, 5}, 8)...), false)
}

func TestLeastLassoOfLoops(t *testing.T) {
	for length := 1; length <= 24; length++ {
		checkLeast(t, lasso(nil, slices.Repeat([]int{3}, length)...), lasso(nil, 3))
		checkLeast(t, lasso([]int{2}, slices.Repeat([]int{3}, length)...), lasso([]int{2}, 3))
	}
	checkLeast(t, lasso(nil, 1, 2, 1, 2), lasso(nil, 1, 2))
	checkLeast(t, lasso(nil, 1, 2, 1, 2, 1, 2), lasso(nil, 1, 2))
	checkLeast(t, lasso(nil, 1, 2, 2, 1, 2, 2, 1, 2, 2), lasso(nil, 1, 2, 2))
	checkLeast(t, lasso(nil, 1, 1, 2, 1, 1, 2), lasso(nil, 1, 1, 2))
	checkLeast(t, lasso(nil, slices.Repeat(waves(6), 4)...), lasso(nil, waves(6)...))
	checkLeast(t, lasso(nil, slices.Repeat([]int{0, 0, 0, 1}, 6)...), lasso(nil, 0, 0, 0, 1))
	// rounds of nothing shorter: what is left of the last one counts too
	none := [][]int{{1, 2, 1}, {1, 2, 1, 2, 1}, {1, 1, 2, 1, 1}, {1, 2, 3}, {1, 2, 2, 1}, {1, 1, 1, 2}, {0, 1, 0, 1, 0, 1, 1, 1}, {1, 2, 1, 2, 1, 3}, append(slices.Repeat([]int{0, 1}, 11), 0, 0)}
	for _, loop := range none {
		checkLeast(t, lasso(nil, loop...), lasso(nil, loop...))
		checkLeast(t, lasso([]int{7}, loop...), lasso([]int{7}, loop...))
	}
}

func TestLeastLassoOfStems(t *testing.T) {
	checkLeast(t, lasso([]int{1, 4}, 3, 4), lasso([]int{1}, 4, 3))
	checkLeast(t, lasso([]int{1, 3, 4}, 3, 4), lasso([]int{1}, 3, 4))
	checkLeast(t, lasso([]int{1, 4, 3, 4}, 3, 4), lasso([]int{1}, 4, 3))
	checkLeast(t, lasso([]int{4, 4}, 3, 4), lasso([]int{4}, 4, 3))
	checkLeast(t, lasso([]int{3, 5, 4}, 3, 5, 4), lasso(nil, 3, 5, 4))
	checkLeast(t, lasso([]int{5, 4}, 3, 5, 4), lasso(nil, 5, 4, 3))
	checkLeast(t, lasso([]int{4}, 3, 5, 4), lasso(nil, 4, 3, 5))
	checkLeast(t, lasso([]int{4, 3, 5, 4}, 3, 5, 4), lasso(nil, 4, 3, 5))
	checkLeast(t, lasso(slices.Repeat([]int{6}, 24), slices.Repeat([]int{6}, 24)...), lasso(nil, 6))
	checkLeast(t, lasso(append([]int{0}, slices.Repeat([]int{6}, 23)...), 6, 6), lasso([]int{0}, 6))
	checkLeast(t, lasso(append(slices.Repeat([]int{6}, 23), 0), 6, 6), lasso(append(slices.Repeat([]int{6}, 23), 0), 6))
	checkLeast(t, lasso(slices.Repeat([]int{1, 2}, 12), slices.Repeat([]int{1, 2}, 12)...), lasso(nil, 1, 2))
	checkLeast(t, lasso([]int{3, 2, 1, 2}, 1, 2, 1, 2), lasso([]int{3}, 2, 1))
	for _, l := range []impl.Lasso{lasso(nil, 0), lasso([]int{1, 2}, 3, 4), lasso([]int{3, 4, 5}, 3, 4), lasso([]int{3, 3}, 3, 4), lasso(waves(23), 0), lasso(append(waves(23), 0), waves(24)...)} {
		checkLeast(t, l, l)
	}
}

func TestTurnLoopByHand(t *testing.T) {
	checkTurn(t, lasso(nil, 5), lasso([]int{5}, 5))
	checkTurn(t, lasso([]int{1, 2}, 5), lasso([]int{1, 2, 5}, 5))
	checkTurn(t, lasso(nil, 5, 6), lasso([]int{5}, 6, 5))
	checkTurn(t, lasso([]int{1}, 5, 6, 7), lasso([]int{1, 5}, 6, 7, 5))
	checkTurn(t, lasso([]int{0, 0}, 0, 1, 0, 1), lasso([]int{0, 0, 0}, 1, 0, 1, 0))
	long := waves(24)
	checkTurn(t, lasso(nil, long...), lasso([]int{1}, append(slices.Clone(long[1:]), 1)...))
	for _, loop := range [][]int{{5}, {5, 6}, {5, 6, 7, 0}, long} {
		turned := append(slices.Clone(loop[1:]), loop[0])
		checkTurn(t, lasso(long[:23], loop...), lasso(append(slices.Clone(long[:23]), loop[0]), turned...))
		noLassoTold(t, "TurnLoop", loop)(impl.TurnLoop(lasso(long, loop...)))
	}
}

func TestStutterAtByHand(t *testing.T) {
	l := lasso([]int{1, 2, 3}, 4, 5, 6)
	checkStutter(t, l, 0, lasso([]int{1, 1, 2, 3}, 4, 5, 6))
	checkStutter(t, l, 1, lasso([]int{1, 2, 2, 3}, 4, 5, 6))
	checkStutter(t, l, 2, lasso([]int{1, 2, 3, 3}, 4, 5, 6))
	checkStutter(t, l, 3, lasso([]int{1, 2, 3, 4}, 4, 5, 6))
	checkStutter(t, l, 4, lasso([]int{1, 2, 3, 4, 5}, 5, 6, 4))
	checkStutter(t, l, 5, lasso([]int{1, 2, 3, 4, 5, 6}, 6, 4, 5))
	checkStutter(t, l, 6, lasso([]int{1, 2, 3, 4, 5, 6, 4}, 4, 5, 6))
	checkStutter(t, l, 10, lasso([]int{1, 2, 3, 4, 5, 6, 4, 5, 6, 4, 5}, 5, 6, 4))
	checkStutter(t, lasso(nil, 5), 0, lasso([]int{5}, 5))
	checkStutter(t, lasso(nil, 5), 2, lasso([]int{5, 5, 5}, 5))
	checkStutter(t, lasso(nil, 5, 6), 0, lasso([]int{5}, 5, 6))
	checkStutter(t, lasso(nil, 5, 6), 1, lasso([]int{5, 6}, 6, 5))
	checkStutter(t, lasso(nil, 5, 6), 2, lasso([]int{5, 6, 5}, 5, 6))
	checkStutter(t, lasso([]int{0}, 5, 6), 0, lasso([]int{0, 0}, 5, 6))
}

// The new stem is one letter longer than the stem, or than k where that is greater.
func TestStutterAtByTheLengthOfTheStem(t *testing.T) {
	for _, length := range []int{0, 1, 12, 22, 23, 24} {
		for _, round := range []int{1, 2, 3, 24} {
			l := lasso(waves(24)[:length], waves(round)...)
			for _, k := range []int{0, 1, 11, 12, 21, 22, 23, 24, 25, 26, 47, 48, 100, 999, 1000} {
				if length == 24 || k >= 24 {
					noLassoTold(t, "StutterAt", l, k)(impl.StutterAt(l, k))
					continue
				}
				got, ok := impl.StutterAt(l, k)
				if len(got.Stem) != max(length, k)+1 || len(got.Loop) != round || !ok {
					t.Errorf("StutterAt(%v, %d): %v, %v", l, k, got, ok)
				}
			}
		}
	}
	letters := waves(24)
	checkStutter(t, lasso(letters[:23], 5, 6), 22, lasso(append(slices.Clone(letters[:23]), letters[22]), 5, 6))
	checkStutter(t, lasso(letters[:23], 5, 6), 0, lasso(append([]int{1}, letters[:23]...), 5, 6))
	checkStutter(t, lasso(letters[:23], 5, 6), 23, lasso(append(slices.Clone(letters[:23]), 5), 5, 6))
	checkStutter(t, lasso(letters[:22], 5, 6), 23, lasso(append(slices.Clone(letters[:22]), 5, 6), 6, 5))
	checkStutter(t, lasso(nil, letters...), 23, lasso(letters, append([]int{letters[23]}, letters[:23]...)...))
}
