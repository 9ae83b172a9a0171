package tests

import (
	"slices"
	"testing"

	"loop.example/g00649/impl"
)

// reachArguments are all that the calls of the chapter take.
type reachArguments struct {
	p    impl.Program
	u    []impl.Node
	path []int
	some []int
	no   int
}

func (d drawer) reachArguments(k int) reachArguments {
	shape := smallShapes[k%len(smallShapes)]
	a := reachArguments{p: copied(d.walker(shape[0], shape[1])), u: d.term(shape[0], shape[1], 2, 1+d.Intn(7))}
	w := worldOf(a.p)
	a.no = d.Intn(len(w.states))
	a.some = w.where(func(int) bool { return d.Intn(4) == 0 })
	a.path = []int{d.Intn(len(w.states))}
	for range d.Intn(6) {
		a.path = append(a.path, d.of(w.next[a.path[len(a.path)-1]]))
	}
	return a
}

// spoiled mars, at times, one of the arguments.
func (a reachArguments) spoiled(d drawer) reachArguments {
	switch d.Intn(10) {
	case 0:
		a.p = d.marredProgram(a.p)
	case 1:
		a.u = spoiled(d, a.u)
	case 2:
		a.no = d.of([]int{-1, 32, 1 << 40})
	case 3:
		a.path[d.Intn(len(a.path))] = d.of([]int{-1, 32, 1 << 40})
	case 4:
		a.some = append(slices.Clone(a.some), 0)
	}
	return a
}

// guarded has more memory behind each length.
func (a reachArguments) guarded() reachArguments {
	a.p, a.u = guardedProgram(a.p), guarded(a.u, nodes(impl.OpNo, 0, 99, 99, impl.OpYes, 1)...)
	a.path, a.some = guarded(a.path, -1, 0, 64), guarded(a.some, 31, -1, 64)
	return a
}

func (a reachArguments) all() []any {
	return append(programMemory(a.p), memoryOf(a.u), memoryOf(a.path), memoryOf(a.some))
}

func (a reachArguments) spans() [][2]uintptr {
	return append(programSpans(a.p), span(a.u), span(a.path), span(a.some))
}

// answers makes each call of the chapter and writes what it answers over; told is what was answered ahead of that.
func (a reachArguments) answers(t *testing.T) (told []any) {
	tell := func(answers ...any) { told = append(told, answers...) }
	list := func(l []int, ok bool) {
		tell(append([]int{}, l...), ok)
		apart(t, append(a.spans(), ruined(l, -77)))
	}
	list(impl.NextOf(a.p, a.no))
	list(impl.Starts(a.p))
	list(impl.ReachOf(a.p))
	list(impl.PathTo(a.p, a.no))
	list(impl.StuckIn(a.p))
	list(impl.BackFrom(a.p, a.some))
	steps, ok := impl.StepsTo(a.p, a.no)
	tell(steps, ok)
	is, ok := impl.IsPath(a.p, a.path)
	tell(is, ok)
	is, ok = impl.HoldsIn(a.p, a.u, a.no)
	tell(is, ok)
	is, ok = impl.AlwaysIn(a.p, a.u)
	tell(is, ok)
	return told
}

func TestReachWritesIntoNoArgument(t *testing.T) {
	d := newDrawer(95)
	for k := range 900 {
		plain := d.reachArguments(k).spoiled(d)
		checkUnwritten(t, plain, plain.guarded())
	}
}

// An answer may be handed in again, and stays as it is.
func TestReachOfItsOwnAnswers(t *testing.T) {
	everyWorld(96, 300, func(_ drawer, p impl.Program, w world) {
		reach, _ := impl.ReachOf(p)
		before := slices.Clone(reach)
		back, ok := impl.BackFrom(p, reach)
		apart(t, [][2]uintptr{span(reach), span(back)})
		if want := w.back(reach); !slices.Equal(back, want) || !ok || !slices.Equal(reach, before) {
			t.Errorf("BackFrom(%v, %v): %v, %v, not %v", p, reach, back, ok, want)
		}
		for k, no := range reach {
			path, _ := impl.PathTo(p, no)
			before = slices.Clone(path)
			checkIsPath(t, p, true, path...)
			if is, ok := impl.IsPath(p, path); !is || !ok || !slices.Equal(path, before) {
				t.Errorf("path %d of %v: %v, then %v", k, p, before, path)
			}
		}
	})
}

// Nothing is kept of a program: what is changed in its memory between two calls counts.
func TestReachIsNotKept(t *testing.T) {
	p := arrows(equals(0, 0), 0, 2, 2, 5)
	checkReach(t, p, 0, 2, 5)
	p.Commands[1].Changes[0].By[0].N = 4
	checkReach(t, p, 0, 2, 4)
	checkPath(t, p, 0, 2, 4)
	checkNoPath(t, p, 5)
	p.Start[1].N = 1
	checkStarts(t, p, 1)
	checkStuck(t, p, 1)
	p.Commands[0].Changes[0].Var = 1
	silentReach(t, "no more good", p)
}

// What lies behind a list's length would lead further.
func TestReachEndsAtTheLengths(t *testing.T) {
	p := arrows(equals(0, 0), 0, 2, 2, 5, 5, 6, 6, 7)
	commands := p.Commands
	for length, want := range [][]int{nil, {0, 2}, {0, 2, 5}, {0, 2, 5, 6}, {0, 2, 5, 6, 7}} {
		p.Commands = commands[:length]
		if length == 0 {
			silentReach(t, "no command", p)
			continue
		}
		checkReach(t, p, want...)
		checkStuck(t, p, want[length])
	}
	path := []int{0, 2, 5, 7, 6, -1}
	checkIsNoList(t, p, path...)
	for length := 1; length < 6; length++ {
		if is, ok := impl.IsPath(p, path[:length]); is != (length < 4) || !ok {
			t.Errorf("the first %d of %v: %v, %v", length, path, is, ok)
		}
	}
	checkBack(t, p, []int{3, 1, -1}[:1], 3)
	u := append(equals(0, 5), nodes(impl.OpNo, 0, impl.OpFlip, 0)...)
	for length, want := range []bool{false, false, false, true, true, false} {
		if is, ok := impl.HoldsIn(p, u[:length], 5); is != (length == 3) || ok != want {
			t.Errorf("the first %d of %v: %v, %v", length, u, is, ok)
		}
	}
}
