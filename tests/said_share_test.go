package tests

import (
	"slices"
	"strings"
	"testing"

	"loop.example/g00649/impl"
)

// saidArguments are all that the calls of the chapter take.
type saidArguments struct {
	f, g []impl.Said
	l    impl.Lasso
	k    int
	op   int
	text string
}

func (d drawer) saidArguments() saidArguments {
	s := saidArguments{f: d.said(1+d.Intn(16), allSigns), g: d.said(1+d.Intn(8), allSigns), l: d.lasso(), k: d.Intn(d.of([]int{3, 60, 1001})), op: 3 + d.Intn(6)}
	if d.Intn(2) == 0 {
		s.f = d.said(1+d.Intn(7), allSigns)
	}
	s.text = saidWritten(s.f)
	return s
}

// spoiled mars, at times, one of the arguments.
func (s saidArguments) spoiled(d drawer) saidArguments {
	switch d.Intn(12) {
	case 0:
		s.f = d.spoiledSaid(s.f)
	case 1:
		s.g = d.spoiledSaid(s.g)
	case 2:
		s.l = d.spoiledLasso(s.l)
	case 3:
		s.k = d.of([]int{-1, 1001, 1 << 40, -1 << 63})
	case 4:
		s.op = d.of([]int{0, 1, 2, 9, -1, 1 << 40, -1 << 63})
	case 5:
		s.text = d.spoiledText(s.text)
	}
	return s
}

// guarded has more memory behind each length.
func (s saidArguments) guarded() saidArguments {
	s.f = guarded(s.f, impl.Said{Op: 9, N: -1}, saidNodes['q'], saidNodes['U'])
	s.g = guarded(s.g, saidNodes['!'], saidNodes['p'], saidNodes['&'], impl.Said{})
	s.l.Stem, s.l.Loop = guarded(s.l.Stem, 5, -1, 6, 9), guarded(s.l.Loop, 0, 7, -1, 8)
	return s
}

func (s saidArguments) all() []any {
	return []any{memoryOf(s.f), memoryOf(s.g), memoryOf(s.l.Stem), memoryOf(s.l.Loop), s.text}
}

func (s saidArguments) spans() [][2]uintptr {
	return [][2]uintptr{span(s.f), span(s.g), span(s.l.Stem), span(s.l.Loop)}
}

// answers makes each call of the chapter and writes what it answers over; told is what was answered ahead of that.
func (s saidArguments) answers(t *testing.T) (told []any) {
	tell := func(answers ...any) { told = append(told, answers...) }
	formula := func(f []impl.Said, ok bool) {
		tell(append([]impl.Said{}, f...), ok)
		apart(t, append(s.spans(), span(f)))
		ruined(f, impl.Said{Op: -77, N: -77})
	}
	formula(impl.PushNot(s.f, false))
	formula(impl.PushNot(s.f, true))
	formula(impl.JoinSaid(s.op, s.f, s.g))
	formula(impl.JoinSaid(s.op, s.g, s.g))
	formula(impl.TurnSaid(s.op, s.f))
	read, at, ok := impl.ReadSaid(s.text)
	tell(at)
	formula(read, ok)
	atoms, ok := impl.AtomsIn(s.f)
	tell(append([]int{}, atoms...), ok)
	apart(t, append(s.spans(), span(atoms)))
	ruined(atoms, -77)
	holds, ok := impl.HoldsAt(s.f, s.l, s.k)
	tell(holds, ok)
	is, ok := impl.IsPushed(s.f)
	tell(is, ok)
	text, ok := impl.SaidText(s.f)
	tell(text, ok)
	depth, ok := impl.NextDepth(s.f)
	tell(depth, ok, impl.GoodSaid(s.f), impl.GoodSaid(s.g))
	return told
}

func TestFormulasWriteIntoNoArgument(t *testing.T) {
	d := newDrawer(260)
	for range 4000 {
		plain := d.saidArguments().spoiled(d)
		checkUnwritten(t, plain, plain.guarded())
	}
}

// One formula as both parts, parts that lie one behind the other in memory, and a lasso whose lists are one memory.
func TestFormulasThatShareMemory(t *testing.T) {
	d := newDrawer(261)
	for range 2000 {
		f, g := d.said(1+d.Intn(7), allSigns), d.said(1+d.Intn(8), allSigns)
		memory := slices.Concat(f, g, []impl.Said{saidNodes['U'], {Op: 9}})
		before := slices.Clone(memory)
		first, second := memory[:len(f)], memory[len(f):len(f)+len(g)]
		checkJoin(t, impl.FRelease, first, second)
		checkJoin(t, impl.FAnd, first, first)
		checkJoin(t, impl.FOr, second, first)
		saidTold(t, append(slices.Clone(f), saidNodes['!']), "TurnSaid")(impl.TurnSaid(impl.FNot, first))
		list := []int{1, 2, 3, 4, -1}
		l := impl.Lasso{Stem: list[:2], Loop: list[:4]}
		whole := newSearchOf(f, lasso([]int{1, 2}, 1, 2, 3, 4), 300)
		checkHoldsAt(t, first, l, 5, whole.holds(5))
		if !sameSaid(memory, before) || !slices.Equal(list, []int{1, 2, 3, 4, -1}) {
			t.Errorf("%v, then %v; %v", before, memory, list)
		}
	}
}

// What is added behind an answer is seen nowhere else, and an answer may be handed in again and stays as it is.
func TestFormulasOfTheirOwnAnswers(t *testing.T) {
	everySaid(262, 2000, func(_ drawer, f []impl.Said) {
		first, ok := impl.PushNot(f, false)
		if !ok {
			return
		}
		before := slices.Clone(first)
		second, _ := impl.PushNot(first, false)
		joined, _ := impl.JoinSaid(impl.FAnd, first, first)
		turned, _ := impl.TurnSaid(impl.FNext, first)
		apart(t, [][2]uintptr{span(f), span(first), span(second), span(joined), span(turned)})
		for _, one := range [][]impl.Said{first, second, joined, turned} {
			whole := slices.Clone(one)
			_ = append(one, impl.Said{Op: -3}, impl.Said{Op: -3})
			if !sameSaid(one, whole) {
				t.Errorf("%v, then %v", whole, one)
			}
			for _, behind := range memoryOf(one)[len(one):] {
				if behind != (impl.Said{}) && behind != (impl.Said{Op: -3}) {
					t.Errorf("of %v: behind %v lies %v", f, one, behind)
				}
			}
		}
		if !sameSaid(first, before) {
			t.Errorf("%v, then %v", before, first)
		}
	})
}

// Nothing is kept of a formula, a lasso or a text: what is changed in their memory between two calls counts.
func TestFormulasAreNotKept(t *testing.T) {
	f, l := said("(pUq)"), lasso([]int{1}, 2)
	checkHoldsAt(t, f, l, 0, true)
	l.Stem[0] = 0
	checkHoldsAt(t, f, l, 0, false)
	f[2].Op = impl.FOr
	checkHoldsAt(t, f, l, 1, true)
	oneTold(t, "(p|q)", "SaidText")(impl.SaidText(f))
	f[0] = saidNodes['r']
	oneTold(t, "(r|q)", "SaidText")(impl.SaidText(f))
	listTold(t, []int{1, 2}, "AtomsIn")(impl.AtomsIn(f))
	b := []byte("(p&q)")
	g, _, _ := impl.ReadSaid(string(b))
	b[1] = 'r'
	saidTold(t, said("(p&q)"), "ReadSaid")(g, true)
	f[2].Op = 9
	silentSaid(t, "no more good", f)
}

// What lies behind a list's length would make other formulas, or none.
func TestFormulasEndAtTheirLengths(t *testing.T) {
	whole := said("X(p&(qU!r))")
	for end := range whole {
		f := whole[:end]
		if want := goodSaidWant(f); want {
			oneTold(t, saidWritten(f), "SaidText", f)(impl.SaidText(f))
		} else {
			silentSaid(t, "cut off", f)
		}
	}
	long := strings.Repeat("(pU!q)", 2)
	if f, at, ok := impl.ReadSaid(long[:6]); !sameSaid(f, said("(pU!q)")) || at != 6 || !ok {
		t.Error(f, at, ok)
	}
	checkNotRead(t, long[:5], 5)
}
