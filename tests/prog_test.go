package tests

import (
	"math"
	"slices"
	"testing"

	"loop.example/g00649/impl"
)

var (
	always    = nodes(impl.OpYes, 1)
	never     = nodes(impl.OpYes, 0)
	oddPlaces = []int{-1, -2, 6, 7, 60, 1 << 32, math.MinInt, math.MaxInt}
)

func change(v int, by []impl.Node) impl.Change { return impl.Change{Var: v, By: by} }

func command(when []impl.Node, changes ...impl.Change) impl.Command {
	return impl.Command{When: when, Changes: changes}
}

func program(wide, vars int, start []impl.Node, commands ...impl.Command) impl.Program {
	return impl.Program{Wide: wide, Vars: vars, Start: start, Commands: commands}
}

// idle has as many commands as are told, that change nothing.
func idle(wide, vars int, commands int) impl.Program {
	return program(wide, vars, always, slices.Repeat([]impl.Command{command(always)}, commands)...)
}

func variable(v int) []impl.Node { return nodes(impl.OpVar, v) }

func number(n int) []impl.Node { return nodes(impl.OpNum, n) }

// sum is variable v and a number; equals and below hold variable v against one.
func sum(v int, n int) []impl.Node { return nodes(impl.OpVar, v, impl.OpNum, n, impl.OpAdd, 0) }

func equals(v int, n int) []impl.Node { return nodes(impl.OpVar, v, impl.OpNum, n, impl.OpEq, 0) }

func below(v int, n int) []impl.Node { return nodes(impl.OpVar, v, impl.OpNum, n, impl.OpLess, 0) }

// program draws a good program of short terms, of which many commands are enabled, and many apart.
func (d drawer) program(wide, vars int) impl.Program {
	p := program(wide, vars, d.term(wide, vars, 2, 1+d.Intn(7)))
	for range 1 + d.Intn(impl.MaxCommands) {
		c := command(d.term(wide, vars, 2, 1+d.Intn(5)))
		for v := range vars {
			if d.Intn(3) == 0 {
				c.Changes = append(c.Changes, change(v, d.term(wide, vars, 1, 1+d.Intn(5))))
			}
		}
		p.Commands = append(p.Commands, c)
	}
	return p
}

func everyProgram(seed int64, count int, f func(d drawer, p impl.Program)) {
	d := newDrawer(seed)
	for k := range count {
		f(d, d.program(someWides[k%len(someWides)], 1+k/len(someWides)%impl.MaxVars))
	}
}

// smallShapes are the wides and variables of all small programs, looseShapes of some that are good and not small.
var (
	smallShapes = [][2]int{{1, 1}, {2, 1}, {3, 1}, {4, 1}, {5, 1}, {1, 2}, {2, 2}, {1, 3}, {1, 4}}
	looseShapes = [][2]int{{6, 1}, {7, 1}, {63, 1}, {64, 1}, {3, 2}, {4, 2}, {5, 2}, {32, 2}, {64, 2}, {2, 3}, {3, 3}, {64, 3}, {2, 4}, {5, 4}, {16, 4}, {64, 4}}
)

// goodTermWant reads the term from behind.
func goodTermWant(wide, vars int, u []impl.Node, kind int) bool {
	if wide < 1 || wide > 64 || vars < 1 || vars > 4 || len(u) < 1 || len(u) > 48 {
		return false
	}
	got, ahead, ok := readBack(wide, vars, u)
	return ok && got == kind && len(ahead) == 0
}

func goodProgramWant(p impl.Program) bool {
	good := goodTermWant(p.Wide, p.Vars, p.Start, 2) && len(p.Commands) > 0 && len(p.Commands) < 7
	for _, c := range p.Commands {
		good = good && goodTermWant(p.Wide, p.Vars, c.When, 2)
		for k, one := range c.Changes {
			good = good && one.Var >= 0 && one.Var < p.Vars && goodTermWant(p.Wide, p.Vars, one.By, 1)
			good = good && (k == 0 || one.Var > c.Changes[k-1].Var)
		}
	}
	return good
}

// touchedWant looks for each variable in turn.
func touchedWant(p impl.Program, k int) (reads []int, changes []int) {
	for v := range p.Vars {
		node := impl.Node{Op: impl.OpVar, N: uint64(v)}
		read, changed := slices.Contains(p.Commands[k].When, node), false
		for _, c := range p.Commands[k].Changes {
			read = read || slices.Contains(c.By, node)
			changed = changed || c.Var == v
		}
		if read {
			reads = append(reads, v)
		}
		if changed {
			changes = append(changes, v)
		}
	}
	return reads, changes
}

func apartWant(p impl.Program, k, m int) bool {
	readsK, changesK := touchedWant(p, k)
	readsM, changesM := touchedWant(p, m)
	for v := range p.Vars {
		byK, byM := slices.Contains(changesK, v), slices.Contains(changesM, v)
		if byK && (byM || slices.Contains(readsM, v)) || byM && slices.Contains(readsK, v) {
			return false
		}
	}
	return true
}

func copied(p impl.Program) impl.Program {
	out := p
	out.Start, out.Commands = slices.Clone(p.Start), nil
	for _, c := range p.Commands {
		var changes []impl.Change
		for _, one := range c.Changes {
			changes = append(changes, change(one.Var, slices.Clone(one.By)))
		}
		out.Commands = append(out.Commands, command(slices.Clone(c.When), changes...))
	}
	return out
}

// marredProgram is a copy that may be good no more.
func (d drawer) marredProgram(p impl.Program) impl.Program {
	p = copied(p)
	k := d.Intn(len(p.Commands))
	c := &p.Commands[k]
	part := d.Intn(9)
	if len(c.Changes) == 0 {
		part %= 6
	}
	switch part {
	case 0:
		p.Wide = d.of([]int{p.Wide - 1, p.Wide + 1, 64, 65, -p.Wide})
	case 1:
		p.Vars = d.of([]int{p.Vars - 1, p.Vars + 1, 4, 5, -p.Vars})
	case 2:
		p.Start = spoiled(d, p.Start)
	case 3:
		p.Commands = copied(impl.Program{Commands: slices.Repeat(p.Commands, d.Intn(4))}).Commands
	case 4:
		c.When = spoiled(d, c.When)
	case 5:
		c.Changes = append(c.Changes, change(d.Intn(6)-1, variable(0)))
	case 6:
		one := &c.Changes[d.Intn(len(c.Changes))]
		one.By = spoiled(d, one.By)
	case 7:
		c.Changes[d.Intn(len(c.Changes))].Var = d.Intn(6) - 1
	case 8:
		slices.Reverse(c.Changes)
	}
	return p
}

func TestProgramConstants(t *testing.T) {
	if impl.MaxCommands != 6 || impl.MaxBits != 5 || impl.MaxPlay != 60 {
		t.Error("limits", impl.MaxCommands, impl.MaxBits, impl.MaxPlay)
	}
}

// badPrograms are not good by one rule each; they are of wide 4 and 2 variables but for the first ones.
var badPrograms = map[string]impl.Program{
	"nothing":                {},
	"Wide of 0":              idle(0, 2, 1),
	"Wide below 0":           idle(-1, 2, 1),
	"Wide of 65":             idle(65, 2, 1),
	"least Wide":             idle(math.MinInt, 1, 1),
	"greatest Wide":          idle(math.MaxInt, 1, 1),
	"Vars of 0":              idle(4, 0, 1),
	"Vars below 0":           idle(4, -1, 1),
	"Vars of 5":              idle(4, 5, 1),
	"least Vars":             idle(1, math.MinInt, 1),
	"greatest Vars":          idle(1, math.MaxInt, 1),
	"both far beyond":        idle(1<<32, 1<<32, 1),
	"no command":             idle(4, 2, 0),
	"a command too many":     idle(4, 2, 7),
	"far too many commands":  idle(4, 2, 5000),
	"no Start":               program(4, 2, nil, command(always)),
	"Start a number":         program(4, 2, number(1), command(always)),
	"Start a variable":       program(4, 2, variable(0), command(always)),
	"no When":                program(4, 2, always, command(nil)),
	"When a number":          program(4, 2, always, command(sum(0, 1))),
	"the last When a number": program(4, 2, always, command(always), command(equals(0, 1)), command(variable(1))),
	"By a condition":         program(4, 2, always, command(always, change(0, equals(0, 1)))),
	"By of yes":              program(4, 2, always, command(always, change(1, always))),
	"no By":                  program(4, 2, always, command(always, change(1, nil))),
	"the last By none":       program(4, 2, always, command(always, change(0, number(1)), change(1, number(16)))),
	"Var below 0":            program(4, 2, always, command(always, change(-1, number(1)))),
	"least Var":              program(4, 2, always, command(always, change(math.MinInt, number(1)))),
	"Var of Vars":            program(4, 2, always, command(always, change(2, number(1)))),
	"Var beyond":             program(4, 2, always, command(always, change(0, number(1)), change(3, number(1)))),
	"greatest Var":           program(4, 2, always, command(always, change(math.MaxInt, number(1)))),
	"Vars twice the same":    program(4, 2, always, command(always, change(0, number(1)), change(0, number(1)))),
	"the last one twice":     program(4, 2, always, command(always, change(0, number(1)), change(1, number(1)), change(1, number(2)))),
	"Vars that fall":         program(4, 2, always, command(always, change(1, number(1)), change(0, number(1)))),
	"Vars of all that fall":  program(4, 4, always, command(always, change(0, number(1)), change(3, number(1)), change(2, number(1)))),
	"Vars that fall late":    program(4, 2, always, command(always), command(always, change(1, number(1)), change(0, number(1)))),
	"far too many Changes":   program(4, 2, always, impl.Command{When: always, Changes: make([]impl.Change, 5000)}),
	"a variable beyond Vars": program(4, 2, equals(2, 0), command(always)),
	"a number beyond Wide":   program(4, 2, equals(0, 16), command(always)),
}

// withNotGood puts a list that is no term into each place where one stands.
func withNotGood(u []impl.Node) []impl.Program {
	return []impl.Program{
		program(4, 2, u, command(always)),
		program(4, 2, always, command(u)),
		program(4, 2, always, command(always), command(u, change(1, number(3)))),
		program(4, 2, always, command(always, change(0, u))),
		program(4, 2, always, command(always, change(0, variable(1)), change(1, u)), command(always)),
	}
}

// silentProgram asks for the zero answer of each function of the chapter.
func silentProgram(t *testing.T, name string, p impl.Program) {
	t.Helper()
	if impl.GoodProgram(p) {
		t.Errorf("%s: good", name)
	}
	if is, ok := impl.IsSmall(p); is || ok {
		t.Errorf("%s: small %v, %v", name, is, ok)
	}
	for _, k := range append([]int{0, 1, 2, 5}, oddPlaces...) {
		if l, m, ok := impl.TouchedBy(p, k); len(l) != 0 || len(m) != 0 || ok {
			t.Errorf("%s: touched by %d: %v, %v, %v", name, k, l, m, ok)
		}
		for _, m := range []int{0, 1, 6, -1, k} {
			if is, ok := impl.Apart(p, k, m); is || ok {
				t.Errorf("%s: %d and %d apart: %v, %v", name, k, m, is, ok)
			}
		}
		if s, ok := impl.StateOf(p, k); len(s) != 0 || ok {
			t.Errorf("%s: state %d: %v, %v", name, k, s, ok)
		}
	}
	for length := range 6 {
		silentAt(t, name, p, make([]uint64, length))
	}
	silentAt(t, name, p, nil)
}

// silentAt asks for the zero answer of the functions that take a state.
func silentAt(t *testing.T, name string, p impl.Program, s []uint64) {
	t.Helper()
	if is, ok := impl.IsStart(p, s); is || ok {
		t.Errorf("%s: %v is a start: %v, %v", name, s, is, ok)
	}
	if l, ok := impl.Enabled(p, s); len(l) != 0 || ok {
		t.Errorf("%s: enabled at %v: %v, %v", name, s, l, ok)
	}
	for _, k := range []int{0, 1, 5, -1, 6} {
		checkNoStep(t, name, p, s, k)
		checkNoPlay(t, name, p, s, []int{k})
	}
	checkNoPlay(t, name, p, s, nil)
	if n, ok := impl.StateNo(p, s); n != 0 || ok {
		t.Errorf("%s: number of %v: %d, %v", name, s, n, ok)
	}
}

func TestProgramsThatAreNotGood(t *testing.T) {
	for name, p := range badPrograms {
		silentProgram(t, name, p)
		if goodProgramWant(p) {
			t.Errorf("the tests' own rules take %s", name)
		}
	}
	for name, u := range notGood {
		for _, p := range withNotGood(u) {
			silentProgram(t, name, p)
		}
	}
}

func TestGoodProgramEdges(t *testing.T) {
	for wide := -2; wide <= 67; wide++ {
		for vars := -2; vars <= 7; vars++ {
			want := wide >= 1 && wide <= 64 && vars >= 1 && vars <= 4
			if impl.GoodProgram(idle(wide, vars, 1)) != want {
				t.Errorf("Wide %d and Vars %d: %v", wide, vars, !want)
			}
		}
	}
	for commands := range 9 {
		for _, shape := range [][2]int{{1, 1}, {4, 2}, {64, 4}} {
			if want := commands >= 1 && commands <= 6; impl.GoodProgram(idle(shape[0], shape[1], commands)) != want {
				t.Errorf("%d commands of %v: %v", commands, shape, !want)
			}
		}
	}
	for name, p := range map[string]impl.Program{
		"terms of one node":  program(4, 2, never, command(never, change(0, number(15)), change(1, variable(1)))),
		"longest terms":      program(4, 2, denied(48), command(denied(48), change(0, flipped(48)), change(1, flipped(48)))),
		"the last variable":  program(1, 4, equals(3, 1), command(equals(3, 0), change(3, variable(3)))),
		"all variables":      program(64, 4, always, command(always, change(0, number(1)), change(1, number(1)), change(2, number(1)), change(3, number(1)))),
		"some variables":     program(64, 4, always, command(always, change(0, number(1)), change(2, number(1)))),
		"an empty list":      program(4, 2, always, impl.Command{When: always, Changes: []impl.Change{}}),
		"the same both ways": program(4, 2, always, command(always, change(0, variable(1)), change(1, variable(0)))),
		"the same command":   program(4, 2, always, command(always, change(0, variable(0))), command(always, change(0, variable(0)))),
	} {
		if !impl.GoodProgram(p) || !goodProgramWant(p) {
			t.Errorf("%s: not good", name)
		}
	}
}

// Of all lists of Vars up to three just the rising ones of variables are good.
func TestGoodProgramByItsChanges(t *testing.T) {
	for vars := 1; vars <= impl.MaxVars; vars++ {
		for n := range 8 * 8 * 8 {
			var changes []impl.Change
			var list []int
			for _, v := range []int{n%8 - 1, n/8%8 - 1, n/64 - 1} {
				if v < 6 {
					changes, list = append(changes, change(v, number(0))), append(list, v)
				}
			}
			want := slices.IsSorted(list) && len(slices.Compact(slices.Clone(list))) == len(list)
			for _, v := range list {
				want = want && v >= 0 && v < vars
			}
			if impl.GoodProgram(program(3, vars, always, command(always, changes...))) != want {
				t.Errorf("changes of %v of %d variables: %v", list, vars, !want)
			}
		}
	}
}

func TestGoodProgramOfDrawnPrograms(t *testing.T) {
	counts := map[bool]int{}
	everyProgram(80, 4000, func(d drawer, p impl.Program) {
		if !impl.GoodProgram(p) || !goodProgramWant(p) {
			t.Fatalf("not good: %v", p)
		}
		bad := d.marredProgram(p)
		want := goodProgramWant(bad)
		counts[want]++
		if impl.GoodProgram(bad) != want {
			t.Errorf("GoodProgram(%v): %v", bad, !want)
		}
	})
	if counts[true] < 300 || counts[false] < 300 {
		t.Error("too few of a sort", counts)
	}
}

func TestIsSmallByWideAndVars(t *testing.T) {
	for wide := 1; wide <= impl.MaxWide; wide++ {
		for vars := 1; vars <= impl.MaxVars; vars++ {
			want := slices.Contains(smallShapes, [2]int{wide, vars})
			if is, ok := impl.IsSmall(idle(wide, vars, 2)); is != want || !ok {
				t.Errorf("IsSmall at Wide %d and Vars %d: %v, %v", wide, vars, is, ok)
			}
		}
	}
}

func checkTouched(t *testing.T, p impl.Program, k int, reads []int, changes []int) {
	t.Helper()
	if r, c, ok := impl.TouchedBy(p, k); !slices.Equal(r, reads) || !slices.Equal(c, changes) || !ok {
		t.Errorf("TouchedBy(%v, %d): %v, %v, %v, not %v, %v", p, k, r, c, ok, reads, changes)
	}
}

func TestTouchedByByHand(t *testing.T) {
	three := nodes(impl.OpVar, 3, impl.OpVar, 1, impl.OpLess, 0, impl.OpVar, 3, impl.OpVar, 3, impl.OpEq, 0, impl.OpBoth, 0)
	p := program(4, 4, equals(2, 1),
		command(three),
		command(always, change(0, number(1))),
		command(always, change(2, nodes(impl.OpVar, 3, impl.OpVar, 0, impl.OpSub, 0))),
		command(equals(1, 2), change(1, sum(1, 1))),
		command(equals(1, 2), change(0, variable(3)), change(1, variable(1)), change(3, variable(0))),
		command(equals(2, 3), change(1, nodes(impl.OpVar, 0, impl.OpVar, 0, impl.OpXor, 0))))
	checkTouched(t, p, 0, []int{1, 3}, nil)
	checkTouched(t, p, 1, nil, []int{0})
	checkTouched(t, p, 2, []int{0, 3}, []int{2})
	checkTouched(t, p, 3, []int{1}, []int{1})
	checkTouched(t, p, 4, []int{0, 1, 3}, []int{0, 1, 3})
	checkTouched(t, p, 5, []int{0, 2}, []int{1})
	checkTouched(t, idle(64, 4, 1), 0, nil, nil)
	swap := program(1, 2, equals(0, 1), command(always, change(0, variable(1)), change(1, variable(0))))
	checkTouched(t, swap, 0, []int{0, 1}, []int{0, 1})
}

func TestTouchedByOfDrawnPrograms(t *testing.T) {
	everyProgram(81, 1500, func(d drawer, p impl.Program) {
		for k := range p.Commands {
			reads, changes := touchedWant(p, k)
			checkTouched(t, p, k, reads, changes)
		}
		for _, k := range append([]int{len(p.Commands), len(p.Commands) + 1}, oddPlaces...) {
			if r, c, ok := impl.TouchedBy(p, k); len(r) != 0 || len(c) != 0 || ok {
				t.Errorf("TouchedBy(.., %d) of %d commands: %v, %v, %v", k, len(p.Commands), r, c, ok)
			}
		}
	})
}

func checkApart(t *testing.T, p impl.Program, k, m int, want bool) {
	t.Helper()
	for _, pair := range [][2]int{{k, m}, {m, k}} {
		if is, ok := impl.Apart(p, pair[0], pair[1]); is != want || !ok {
			t.Errorf("Apart(%v, %d, %d): %v, %v", p, pair[0], pair[1], is, ok)
		}
	}
}

func TestApartByHand(t *testing.T) {
	p := program(4, 4, always,
		command(equals(0, 1)),
		command(equals(0, 2), change(1, variable(0))),
		command(always, change(2, variable(0))),
		command(always, change(0, number(3))),
		command(equals(1, 1), change(3, number(3))),
		command(always, change(1, number(1)), change(2, number(5))))
	want := []string{
		"xxxoxx",
		"xoxooo",
		"xxooxo",
		"oooOxx",
		"xoxxoo",
		"xooxoo",
	}
	for k, row := range want {
		for m, letter := range row {
			checkApart(t, p, k, m, letter == 'x')
		}
	}
	// A By is read too where the When holds never, and variable 3 is read alone.
	q := program(1, 4, always,
		command(never, change(0, variable(3))),
		command(never, change(1, variable(3))),
		command(never, change(3, variable(2))),
		command(never, change(2, variable(2))),
		command(equals(3, 1)),
		command(never))
	for _, row := range []struct {
		k, m int
		want bool
	}{{0, 1, true}, {0, 2, false}, {1, 2, false}, {2, 3, false}, {0, 3, true}, {2, 4, false}, {0, 4, true}, {4, 4, true}, {3, 3, false}, {0, 0, false}, {2, 5, true}, {5, 5, true}} {
		checkApart(t, q, row.k, row.m, row.want)
	}
}

func TestApartOfDrawnPrograms(t *testing.T) {
	counts := map[bool]int{}
	everyProgram(82, 1500, func(d drawer, p impl.Program) {
		count := len(p.Commands)
		for k := range p.Commands {
			for m := range p.Commands {
				want := apartWant(p, k, m)
				counts[want]++
				checkApart(t, p, k, m, want)
			}
			for _, m := range append([]int{count, count + 1}, oddPlaces...) {
				for _, pair := range [][2]int{{k, m}, {m, k}, {m, m}} {
					if is, ok := impl.Apart(p, pair[0], pair[1]); is || ok {
						t.Errorf("Apart(.., %d, %d) of %d commands: %v, %v", pair[0], pair[1], count, is, ok)
					}
				}
			}
		}
	})
	if counts[true] < 1000 || counts[false] < 1000 {
		t.Error("too few of a sort", counts)
	}
}
