package tests

import (
	"math"
	"slices"
	"testing"

	"loop.example/g00649/impl"
)

// progArguments are all that the calls of the chapter take.
type progArguments struct {
	p    impl.Program
	s    []uint64
	ks   []int
	k, m int
	no   int
}

func (d drawer) progArguments(k int) progArguments {
	shape := smallShapes[k%len(smallShapes)]
	if k%3 == 0 {
		shape = looseShapes[k%len(looseShapes)]
	}
	a := progArguments{p: d.program(shape[0], shape[1]), s: d.state(shape[0], shape[1])}
	for range d.Intn(8) {
		a.ks = append(a.ks, d.Intn(len(a.p.Commands)+2)-1)
	}
	a.k, a.m, a.no = d.Intn(len(a.p.Commands)), d.Intn(len(a.p.Commands)), d.Intn(16)
	return a
}

// spoiled mars, at times, one of the arguments.
func (a progArguments) spoiled(d drawer) progArguments {
	switch d.Intn(8) {
	case 0:
		a.p = d.marredProgram(a.p)
	case 1:
		a.s = slices.Clone(a.s)
		a.s[d.Intn(len(a.s))] = math.MaxUint64
	case 2:
		a.s = append(slices.Clone(a.s), 0)
	case 3:
		a.k, a.no = d.of(oddPlaces), d.of(oddPlaces)
	}
	return a
}

// guardedProgram has more memory behind the length of each of its lists.
func guardedProgram(p impl.Program) impl.Program {
	behind := nodes(impl.OpNo, 0, 99, 99, impl.OpYes, 1, impl.OpFlip, 0)
	var commands []impl.Command
	for _, c := range p.Commands {
		var changes []impl.Change
		for _, one := range c.Changes {
			changes = append(changes, change(one.Var, guarded(one.By, behind...)))
		}
		changes = guarded(changes, change(3, number(1)), change(-1, nil))
		commands = append(commands, command(guarded(c.When, behind...), changes...))
	}
	p.Start = guarded(p.Start, behind...)
	p.Commands = guarded(commands, command(always), command(nil, change(9, nil)))
	return p
}

// memoryOf tells what lies in a list's memory, behind its length too.
func memoryOf[T any](list []T) []T { return slices.Clone(list[:cap(list)]) }

func programMemory(p impl.Program) []any {
	out := []any{p.Wide, p.Vars, memoryOf(p.Start)}
	for _, c := range p.Commands[:cap(p.Commands)] {
		out = append(out, len(c.When), memoryOf(c.When), len(c.Changes))
		for _, one := range c.Changes[:cap(c.Changes)] {
			out = append(out, one.Var, len(one.By), memoryOf(one.By))
		}
	}
	return out
}

func programSpans(p impl.Program) [][2]uintptr {
	out := [][2]uintptr{span(p.Start), span(p.Commands)}
	for _, c := range p.Commands {
		out = append(out, span(c.When), span(c.Changes))
		for _, one := range c.Changes {
			out = append(out, span(one.By))
		}
	}
	return out
}

// guarded has more memory behind each length.
func (a progArguments) guarded() progArguments {
	a.p = guardedProgram(a.p)
	a.s, a.ks = guarded(a.s, 1, math.MaxUint64, 0), guarded(a.ks, 0, 1, -1, 6)
	return a
}

func (a progArguments) all() []any {
	return append(programMemory(a.p), memoryOf(a.s), memoryOf(a.ks))
}

func (a progArguments) spans() [][2]uintptr { return append(programSpans(a.p), span(a.s), span(a.ks)) }

// answers makes each call of the chapter and writes what it answers over; told is what was answered ahead of that.
func (a progArguments) answers(t *testing.T) (told []any) {
	tell := func(answers ...any) { told = append(told, answers...) }
	apart := func(memory ...[2]uintptr) { apart(t, append(memory, a.spans()...)) }
	small, ok := impl.IsSmall(a.p)
	tell(impl.GoodProgram(a.p), small, ok)
	start, ok := impl.IsStart(a.p, a.s)
	tell(start, ok)
	l, ok := impl.Enabled(a.p, a.s)
	tell(append([]int{}, l...), ok)
	apart(ruined(l, -77))
	next, ok := impl.StepBy(a.p, a.s, a.k)
	tell(append([]uint64{}, next...), ok)
	apart(ruined(next, 77))
	states, did, ok := impl.PlayCommands(a.p, a.s, a.ks)
	tell(len(states), append([]bool{}, did...), ok)
	memory := [][2]uintptr{span(states), ruined(did, true)}
	for _, s := range states {
		tell(append([]uint64{}, s...))
		memory = append(memory, ruined(s, 77))
	}
	apart(memory...)
	ruined(states, []uint64{77})
	reads, changes, ok := impl.TouchedBy(a.p, a.k)
	tell(append([]int{}, reads...), append([]int{}, changes...), ok)
	apart(ruined(reads, -77), ruined(changes, -77))
	is, ok := impl.Apart(a.p, a.k, a.m)
	tell(is, ok)
	n, ok := impl.StateNo(a.p, a.s)
	tell(n, ok)
	s, ok := impl.StateOf(a.p, a.no)
	tell(append([]uint64{}, s...), ok)
	apart(ruined(s, 77))
	return told
}

func TestProgramsWriteIntoNoArgument(t *testing.T) {
	d := newDrawer(87)
	for k := range 900 {
		plain := d.progArguments(k).spoiled(d)
		checkUnwritten(t, plain, plain.guarded())
	}
}

// Terms, changes and commands of one argument may share their memory.
func TestProgramsThatShareMemory(t *testing.T) {
	row := nodes(impl.OpVar, 0, impl.OpVar, 1, impl.OpXor, 0, impl.OpVar, 0, impl.OpLess, 0)
	changes := []impl.Change{change(0, row[:3]), change(1, row[1:2])}
	shared := program(2, 2, row, impl.Command{When: row, Changes: changes}, impl.Command{When: row, Changes: changes[:1]})
	before, own := slices.Clone(row), copied(shared)
	for n := range uint64(16) {
		s := []uint64{n % 4, n / 4}
		checkEnabled(t, shared, s, enabledWant(own, s)...)
		states, did := playWant(own, s, []int{1, 0, 1, 0})
		checkPlay(t, shared, s, []int{1, 0, 1, 0}, states, did)
	}
	checkTouched(t, shared, 0, []int{0, 1}, []int{0, 1})
	checkTouched(t, shared, 1, []int{0, 1}, []int{0})
	checkApart(t, shared, 0, 1, false)
	if !slices.Equal(row, before) || changes[0].Var != 0 || changes[1].Var != 1 {
		t.Errorf("written into: %v, %v", row, changes)
	}
}

// Nothing is kept of a program: what is changed in its memory between two calls counts.
func TestProgramsAreNotKept(t *testing.T) {
	p := program(3, 1, equals(0, 1), command(below(0, 4), change(0, sum(0, 1))))
	checkStep(t, p, []uint64{3}, 0, 4)
	p.Commands[0].Changes[0].By[1].N = 2
	checkStep(t, p, []uint64{3}, 0, 5)
	p.Commands[0].When[1].N = 3
	checkNoStep(t, "no more enabled", p, []uint64{3}, 0)
	checkStart(t, p, true, 1)
	p.Start[1].N = 2
	checkStart(t, p, false, 1)
	p.Commands[0].Changes[0].Var = 1
	silentProgram(t, "no more good", p)
}

// What lies behind a list's length would make these good, or not.
func TestProgramsEndAtTheirLength(t *testing.T) {
	commands := []impl.Command{command(always), command(number(1)), command(always)}
	changes := []impl.Change{change(0, number(1)), change(1, number(2)), change(1, number(3))}
	term := append(equals(0, 1), nodes(impl.OpNo, 0, impl.OpFlip, 0)...)
	for length, want := range []bool{false, true, false, false} {
		if impl.GoodProgram(program(2, 2, always, commands[:length]...)) != want {
			t.Error("commands", length)
		}
	}
	for length, want := range []bool{true, true, true, false} {
		if impl.GoodProgram(program(2, 2, always, command(always, changes[:length]...))) != want {
			t.Error("changes", length)
		}
	}
	for length, want := range []bool{false, false, false, true, true, false} {
		if impl.GoodProgram(program(2, 2, term[:length], command(always))) != want {
			t.Error("start", length)
		}
		if impl.GoodProgram(program(2, 2, always, command(term[:length]))) != want {
			t.Error("when", length)
		}
	}
	p, words := idle(2, 2, 1), []uint64{1, 2, 4, 3}
	checkNumber(t, p, 9, words[:2]...)
	silentAt(t, "a state that ends too early", p, words[:1])
	silentAt(t, "a state that goes on", p, words[:3])
	q := program(2, 1, always, command(always, change(0, sum(0, 1))))
	checkPlay(t, q, words[:1], []int{0, 0, 0}[:1], [][]uint64{{2}}, []bool{x})
}
