package tests

import (
	"slices"
	"testing"

	"loop.example/g00649/impl"
)

// lassoArguments are all that the calls of the chapter take.
type lassoArguments struct {
	a, b impl.Lasso
	k    int
}

func (d drawer) lassoArguments() lassoArguments {
	s := lassoArguments{a: d.lasso(), b: d.lasso(), k: d.Intn(d.of([]int{3, 25, 60, 1001}))}
	if d.Intn(3) == 0 {
		s.b = d.retold(s.a)
	}
	return s
}

// spoiledLasso is not good, by its letters or its lengths.
func (d drawer) spoiledLasso(l impl.Lasso) impl.Lasso {
	bad := d.of([]int{-1, 8, 9, -1 << 63, 1<<63 - 1})
	switch d.Intn(5) {
	case 0:
		l.Stem = append(slices.Clone(l.Stem[:min(len(l.Stem), 23)]), bad)
	case 1:
		l.Loop = append([]int{bad}, l.Loop[1:]...)
	case 2:
		l.Loop = nil
	case 3:
		l.Loop = d.letters(25+d.Intn(60), 8)
	case 4:
		l.Stem = d.letters(25+d.Intn(60), 8)
	}
	return l
}

// spoiled mars, at times, one of the arguments.
func (s lassoArguments) spoiled(d drawer) lassoArguments {
	switch d.Intn(10) {
	case 0:
		s.a = d.spoiledLasso(s.a)
	case 1:
		s.b = d.spoiledLasso(s.b)
	case 2:
		s.k = d.of([]int{-1, 1001, 1 << 40, -1 << 63})
	}
	return s
}

// guarded has more memory behind each length.
func (s lassoArguments) guarded() lassoArguments {
	for _, l := range []*impl.Lasso{&s.a, &s.b} {
		l.Stem, l.Loop = guarded(l.Stem, 5, -1, 6, 9), guarded(l.Loop, 0, 7, -1, 8)
	}
	return s
}

func (s lassoArguments) all() []any {
	return []any{memoryOf(s.a.Stem), memoryOf(s.a.Loop), memoryOf(s.b.Stem), memoryOf(s.b.Loop)}
}

func (s lassoArguments) spans() [][2]uintptr {
	return [][2]uintptr{span(s.a.Stem), span(s.a.Loop), span(s.b.Stem), span(s.b.Loop)}
}

// answers makes each call of the chapter and writes what it answers over; told is what was answered ahead of that.
func (s lassoArguments) answers(t *testing.T) (told []any) {
	tell := func(answers ...any) { told = append(told, answers...) }
	lists := func(ok bool, lists ...[]int) {
		memory := s.spans()
		tell(ok)
		for _, l := range lists {
			tell(append([]int{}, l...))
			memory = append(memory, span(l))
		}
		apart(t, memory)
		for _, l := range lists {
			ruined(l, -77)
		}
	}
	oneLasso := func(l impl.Lasso, ok bool) { lists(ok, l.Stem, l.Loop) }
	oneLasso(impl.SuffixOf(s.a, s.k))
	oneLasso(impl.LeastLasso(s.a))
	oneLasso(impl.TurnLoop(s.a))
	oneLasso(impl.StutterAt(s.a, s.k))
	word, ok := impl.UnrollOf(s.a, s.k)
	lists(ok, word)
	letter, ok := impl.LetterAt(s.a, s.k)
	tell(letter, ok)
	is, ok := impl.SameWord(s.a, s.b)
	tell(is, ok, impl.GoodLasso(s.a), impl.GoodLasso(s.b))
	return told
}

func TestLassosWriteIntoNoArgument(t *testing.T) {
	d := newDrawer(208)
	for range 4000 {
		plain := d.lassoArguments().spoiled(d)
		checkUnwritten(t, plain, plain.guarded())
	}
}

// What is added behind an answer's list is seen in no other list, and nothing of the word lies there.
func TestLassosGrowApart(t *testing.T) {
	everyLasso(209, 2000, func(d drawer, l impl.Lasso) {
		long := impl.Lasso{Stem: guarded(l.Stem, 5, 6), Loop: guarded(l.Loop, 0, 7)}
		before := [][]int{memoryOf(long.Stem), memoryOf(long.Loop)}
		k := d.Intn(24)
		suffix, _ := impl.SuffixOf(long, k)
		least, _ := impl.LeastLasso(long)
		turned, _ := impl.TurnLoop(long)
		twice, _ := impl.StutterAt(long, k)
		for _, one := range []impl.Lasso{suffix, least, turned, twice} {
			for _, behind := range [][]int{memoryOf(one.Stem)[len(one.Stem):], memoryOf(one.Loop)[len(one.Loop):]} {
				if slices.Max(append(behind, 0)) > 0 {
					t.Errorf("of %v: %v, and behind that %v", l, one, behind)
				}
			}
			stem, loop := slices.Clone(one.Stem), slices.Clone(one.Loop)
			_ = append(one.Stem, -3, -3, -3)
			_ = append(one.Loop, -4, -4, -4)
			if !slices.Equal(one.Stem, stem) || !slices.Equal(one.Loop, loop) {
				t.Errorf("of %v: %v and %v, then %v", l, stem, loop, one)
			}
		}
		if !slices.Equal(before[0], memoryOf(long.Stem)) || !slices.Equal(before[1], memoryOf(long.Loop)) {
			t.Errorf("%v, then %v", before, long)
		}
	})
}

// A stem and a loop that are one memory, or lie one behind the other in it, as do those of both lassos.
func TestLassosThatShareMemory(t *testing.T) {
	everyLasso(210, 2000, func(d drawer, l impl.Lasso) {
		k := d.Intn(60)
		memory := slices.Concat(l.Stem, l.Loop, []int{-1, 8})
		one := impl.Lasso{Stem: memory[:len(l.Stem)], Loop: memory[len(l.Stem) : len(l.Stem)+len(l.Loop)]}
		before := slices.Clone(memory)
		round := impl.Lasso{Stem: one.Loop, Loop: one.Loop}
		checkSame(t, one, one, true)
		checkSame(t, one, l, true)
		checkSame(t, round, lasso(nil, l.Loop...), true)
		checkLeast(t, one, leastWant(l))
		checkLeast(t, round, leastWant(lasso(nil, l.Loop...)))
		checkSuffix(t, round, len(l.Loop), lasso(nil, l.Loop...))
		if want, ok := impl.StutterAt(l, k); ok {
			checkStutter(t, one, k, want)
		}
		if len(l.Stem) < 24 {
			checkTurn(t, one, turnWant(l))
		}
		checkUnroll(t, one, k, wordWant(l, k)...)
		if !slices.Equal(memory, before) {
			t.Errorf("%v, then %v", before, memory)
		}
	})
}

// An answer may be handed in again, and stays as it is.
func TestLassosOfTheirOwnAnswers(t *testing.T) {
	everyLasso(211, 1500, func(d drawer, l impl.Lasso) {
		k, m := d.Intn(30), d.Intn(30)
		first, _ := impl.SuffixOf(l, k)
		before := impl.Lasso{Stem: slices.Clone(first.Stem), Loop: slices.Clone(first.Loop)}
		second, ok := impl.SuffixOf(first, m)
		whole, ok2 := impl.SuffixOf(l, k+m)
		if !ok || !ok2 || !slices.Equal(wordWant(second, farEnough), wordWant(whole, farEnough)) {
			t.Errorf("%v without its first %d and then %d: %v, %v, not %v", l, k, m, second, ok, whole)
		}
		checkOneWord(t, second, whole)
		if turned, ok := impl.TurnLoop(first); ok {
			checkOneWord(t, turned, first)
			apart(t, [][2]uintptr{span(first.Stem), span(first.Loop), span(turned.Stem), span(turned.Loop)})
		}
		if !sameLasso(first, before) {
			t.Errorf("%v, then %v", before, first)
		}
	})
}

// Nothing is kept of a lasso: what is changed in its memory between two calls counts.
func TestLassosAreNotKept(t *testing.T) {
	l := lasso([]int{1, 2}, 3, 4)
	checkUnroll(t, l, 5, 1, 2, 3, 4, 3)
	checkLeast(t, l, l)
	l.Stem[1] = 4
	checkUnroll(t, l, 5, 1, 4, 3, 4, 3)
	checkLeast(t, l, lasso([]int{1}, 4, 3))
	l.Loop[0] = 4
	checkLeast(t, l, lasso([]int{1}, 4))
	checkSame(t, l, lasso([]int{1}, 4), true)
	l.Loop[1] = 8
	silentLasso(t, "no more good", l)
}

// What lies behind a list's length would be other letters, or none.
func TestLassosEndAtTheirLengths(t *testing.T) {
	letters := []int{1, 2, 3, 2, 3, 3, 9}
	for stem := range 8 {
		for loop := range 8 {
			l := lasso(letters[:stem], letters[:loop]...)
			if stem == 7 || loop == 7 || loop == 0 {
				silentLasso(t, "lengths", l)
				continue
			}
			checkGoodLasso(t, l, true)
			alone := lasso(slices.Clone(letters[:stem]), slices.Clone(letters[:loop])...)
			checkLeast(t, l, leastWant(alone))
			checkSame(t, l, alone, true)
			checkTurn(t, l, turnWant(alone))
			checkUnroll(t, l, 20, wordWant(alone, 20)...)
			checkSuffix(t, l, stem, lasso(nil, alone.Loop...))
		}
	}
}
