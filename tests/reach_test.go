package tests

import (
	"math"
	"slices"
	"testing"

	"loop.example/g00649/impl"
)

// arrows is a program of one word of 3 bits, whose commands lead from one state to another.
func arrows(start []impl.Node, pairs ...int) impl.Program {
	p := program(3, 1, start)
	for k := 0; k < len(pairs); k += 2 {
		p.Commands = append(p.Commands, command(equals(0, pairs[k]), change(0, number(pairs[k+1]))))
	}
	return p
}

// oneOf holds where variable 0 is one of some numbers.
func oneOf(some ...int) []impl.Node {
	t := equals(0, some[0])
	for _, n := range some[1:] {
		t = slices.Concat(t, equals(0, n), nodes(impl.OpEither, 0))
	}
	return t
}

// upTo counts from 0 to less than n.
func upTo(n int) []int {
	var list []int
	for k := range n {
		list = append(list, k)
	}
	return list
}

// listTold and noListTold hold what a call answers against a list, and against the zero answer; asked is what it was asked.

func listTold(t *testing.T, want []int, asked ...any) func(l []int, ok bool) {
	return func(l []int, ok bool) {
		t.Helper()
		if !slices.Equal(l, want) || !ok {
			t.Errorf("%v: %v, %v, not %v", asked, l, ok, want)
		}
	}
}

func noListTold(t *testing.T, asked ...any) func(l []int, ok bool) {
	return func(l []int, ok bool) {
		t.Helper()
		if len(l) != 0 || ok {
			t.Errorf("%v: %v, %v", asked, l, ok)
		}
	}
}

// oneTold and noOneTold do so with what is one thing, not a list.

func oneTold[T comparable](t *testing.T, want T, asked ...any) func(is T, ok bool) {
	return func(is T, ok bool) {
		t.Helper()
		if is != want || !ok {
			t.Errorf("%v: %v, %v, not %v", asked, is, ok, want)
		}
	}
}

func noOneTold[T comparable](t *testing.T, asked ...any) func(is T, ok bool) {
	return func(is T, ok bool) {
		t.Helper()
		var zero T
		if is != zero || ok {
			t.Errorf("%v: %v, %v", asked, is, ok)
		}
	}
}

func checkNext(t *testing.T, p impl.Program, no int, want ...int) {
	t.Helper()
	listTold(t, want, "NextOf", p, no)(impl.NextOf(p, no))
}

func checkStarts(t *testing.T, p impl.Program, want ...int) {
	t.Helper()
	listTold(t, want, "Starts", p)(impl.Starts(p))
}

func checkReach(t *testing.T, p impl.Program, want ...int) {
	t.Helper()
	listTold(t, want, "ReachOf", p)(impl.ReachOf(p))
}

// checkPath asks for a path that ends with the state.
func checkPath(t *testing.T, p impl.Program, want ...int) {
	t.Helper()
	no := want[len(want)-1]
	oneTold(t, len(want)-1, "StepsTo", p, no)(impl.StepsTo(p, no))
	listTold(t, want, "PathTo", p, no)(impl.PathTo(p, no))
}

func checkNoPath(t *testing.T, p impl.Program, no int) {
	t.Helper()
	noOneTold[int](t, "StepsTo", p, no)(impl.StepsTo(p, no))
	noListTold(t, "PathTo", p, no)(impl.PathTo(p, no))
}

func checkIsPath(t *testing.T, p impl.Program, want bool, path ...int) {
	t.Helper()
	oneTold(t, want, "IsPath", p, path)(impl.IsPath(p, path))
}

func checkIsNoList(t *testing.T, p impl.Program, path ...int) {
	t.Helper()
	noOneTold[bool](t, "IsPath", p, path)(impl.IsPath(p, path))
}

func checkStuck(t *testing.T, p impl.Program, want ...int) {
	t.Helper()
	listTold(t, want, "StuckIn", p)(impl.StuckIn(p))
}

func checkHolds(t *testing.T, p impl.Program, u []impl.Node, no int, want bool) {
	t.Helper()
	oneTold(t, want, "HoldsIn", p, u, no)(impl.HoldsIn(p, u, no))
}

func checkAlways(t *testing.T, p impl.Program, u []impl.Node, want bool) {
	t.Helper()
	oneTold(t, want, "AlwaysIn", p, u)(impl.AlwaysIn(p, u))
}

func checkBack(t *testing.T, p impl.Program, some []int, want ...int) {
	t.Helper()
	listTold(t, want, "BackFrom", p, some)(impl.BackFrom(p, some))
}

func checkNoBack(t *testing.T, p impl.Program, some ...int) {
	t.Helper()
	noListTold(t, "BackFrom", p, some)(impl.BackFrom(p, some))
}

func TestNextOfByHand(t *testing.T) {
	p := program(2, 1, never,
		command(always, change(0, number(3))),
		command(below(0, 2), change(0, number(3))),
		command(always, change(0, sum(0, 1))),
		command(equals(0, 2), change(0, number(0))))
	checkNext(t, p, 0, 1, 3)
	checkNext(t, p, 1, 2, 3)
	checkNext(t, p, 2, 0, 3)
	checkNext(t, p, 3, 0, 3)
	checkNext(t, idle(3, 1, 6), 5, 5)
	six := arrows(always, 0, 7, 0, 3, 0, 5, 0, 1, 0, 6, 0, 2)
	checkNext(t, six, 0, 1, 2, 3, 5, 6, 7)
	checkNext(t, arrows(always, 4, 2, 4, 0, 4, 2, 4, 4, 4, 0, 4, 2), 4, 0, 2, 4)
}

func TestNextOfStuckStates(t *testing.T) {
	six := arrows(always, 0, 7, 0, 3, 0, 5, 0, 1, 0, 6, 0, 2)
	for no := 1; no < 8; no++ {
		checkNext(t, six, no, no)
	}
	for _, shape := range smallShapes {
		p := program(shape[0], shape[1], always, command(never, change(0, number(1))))
		for no := range 1 << (shape[0] * shape[1]) {
			checkNext(t, p, no, no)
		}
	}
	// one command that leads elsewhere is enough: the state itself is no more among them
	checkNext(t, program(1, 1, always, command(never), command(equals(0, 1), change(0, number(0)))), 1, 0)
	checkNext(t, program(1, 1, always, command(always), command(equals(0, 1), change(0, number(0)))), 1, 0, 1)
}

// All changes of a command are at once, and the first variable counts least.
func TestNextOfSeveralVariables(t *testing.T) {
	swap := command(always, change(0, variable(1)), change(1, variable(0)))
	p := program(2, 2, always, swap, command(below(0, 2), change(0, number(2))))
	for no := range 16 {
		a, b := no%4, no/4
		want := []int{a*4 + b}
		if a < 2 {
			want = append(want, 2+b*4)
		}
		slices.Sort(want)
		checkNext(t, p, no, slices.Compact(want)...)
	}
	last := program(1, 4, always, command(always, change(3, number(1))), command(always, change(0, number(1))))
	checkNext(t, last, 0, 1, 8)
	checkNext(t, last, 6, 7, 14)
	checkNext(t, last, 9, 9)
}

func TestStartsByHand(t *testing.T) {
	checkStarts(t, arrows(never, 0, 1))
	checkStarts(t, arrows(always, 0, 1), 0, 1, 2, 3, 4, 5, 6, 7)
	checkStarts(t, arrows(equals(0, 7), 0, 1), 7)
	checkStarts(t, arrows(oneOf(6, 0, 3), 0, 1), 0, 3, 6)
	checkStarts(t, arrows(nodes(impl.OpVar, 0, impl.OpNum, 0, impl.OpLessS, 0), 0, 1), 4, 5, 6, 7)
	less := nodes(impl.OpVar, 0, impl.OpVar, 1, impl.OpLess, 0)
	checkStarts(t, program(2, 2, less, command(always)), 4, 8, 9, 12, 13, 14)
	checkStarts(t, program(5, 1, always, command(never)), upTo(32)...)
	checkStarts(t, program(1, 1, equals(0, 1), command(never)), 1)
}

func TestReachOfByHand(t *testing.T) {
	checkReach(t, arrows(equals(0, 3), 0, 1, 3, 5, 5, 2, 2, 3, 6, 7), 2, 3, 5)
	checkReach(t, arrows(oneOf(6, 0), 0, 1, 3, 5, 5, 2, 6, 7), 0, 1, 6, 7)
	checkReach(t, arrows(equals(0, 4), 0, 1, 1, 4), 4)
	checkReach(t, arrows(always, 0, 1), 0, 1, 2, 3, 4, 5, 6, 7)
	checkReach(t, program(5, 1, equals(0, 9), command(always, change(0, sum(0, 1)))), upTo(32)...)
	checkReach(t, program(5, 1, equals(0, 9), command(always, change(0, sum(0, 8)))), 1, 9, 17, 25)
}

// Where a Start is met nowhere nothing is reached, and that is told true.
func TestNothingIsReached(t *testing.T) {
	for _, shape := range smallShapes {
		p := program(shape[0], shape[1], never, command(always, change(0, sum(0, 1))), command(never))
		checkStarts(t, p)
		checkReach(t, p)
		checkStuck(t, p)
		checkAlways(t, p, never, true)
		checkAlways(t, p, always, true)
		for no := range 1 << (shape[0] * shape[1]) {
			checkNoPath(t, p, no)
			checkIsPath(t, p, false, no)
			checkHolds(t, p, never, no, false)
			checkHolds(t, p, always, no, true)
		}
	}
}

func TestPathsFromAStartItself(t *testing.T) {
	p := arrows(oneOf(2, 5), 2, 5, 5, 2, 5, 6)
	checkPath(t, p, 2)
	checkPath(t, p, 5)
	checkPath(t, p, 5, 6)
	checkReach(t, p, 2, 5, 6)
	for no := range 8 {
		checkPath(t, idle(3, 1, 1), no)
	}
}

func TestPathsThatAreLeast(t *testing.T) {
	diamond := arrows(equals(0, 0), 0, 2, 0, 1, 2, 3, 1, 3)
	checkPath(t, diamond, 0, 1, 3)
	// the first unlike state decides, though a later one is greater
	early := arrows(equals(0, 0), 0, 2, 0, 1, 1, 6, 2, 3, 6, 7, 3, 7)
	checkPath(t, early, 0, 1, 6, 7)
	checkPath(t, early, 0, 2, 3)
	starts := arrows(oneOf(0, 1), 0, 5, 1, 2, 5, 7, 2, 7)
	checkPath(t, starts, 0, 5, 7)
	checkPath(t, starts, 1, 2)
	// a shorter one counts ahead of a lesser one
	short := arrows(oneOf(0, 6), 0, 1, 1, 2, 2, 3, 6, 4, 4, 3)
	checkPath(t, short, 6, 4, 3)
	checkPath(t, short, 0, 1, 2)
	late := arrows(equals(0, 0), 0, 1, 0, 3, 3, 2, 3, 4, 2, 5, 4, 5)
	checkPath(t, late, 0, 3, 2, 5)
	checkPath(t, late, 0, 3, 4)
}

func TestLongPaths(t *testing.T) {
	up := program(5, 1, equals(0, 0), command(always, change(0, sum(0, 1))))
	down := program(5, 1, equals(0, 31), command(always, change(0, sum(0, 31))), command(always))
	for n := range 32 {
		checkPath(t, up, upTo(n+1)...)
		var fall []int
		for k := range n + 1 {
			fall = append(fall, 31-k)
		}
		checkPath(t, down, fall...)
	}
}

func TestPathsToWhatIsNotReached(t *testing.T) {
	p := arrows(equals(0, 3), 0, 3, 3, 5, 5, 2, 1, 2, 6, 5)
	for _, no := range []int{0, 1, 4, 6, 7} {
		checkNoPath(t, p, no)
	}
	checkPath(t, p, 3, 5, 2)
}

func TestIsPathByHand(t *testing.T) {
	p := arrows(oneOf(0, 4), 0, 1, 1, 0, 1, 3, 4, 4, 5, 6)
	checkIsPath(t, p, true, 0)
	checkIsPath(t, p, true, 4)
	checkIsPath(t, p, false, 1)
	checkIsPath(t, p, false, 7)
	checkIsPath(t, p, true, 0, 1, 0, 1, 3)
	checkIsPath(t, p, false, 1, 3)
	checkIsPath(t, p, false, 5, 6)
	checkIsPath(t, p, false, 0, 3)
	checkIsPath(t, p, false, 0, 1, 2)
	checkIsPath(t, p, false, 0, 4)
	checkIsPath(t, p, false, 0, 1, 0, 0, 1)
	checkIsPath(t, p, false, 3, 1, 0)
	checkIsPath(t, p, true, 4, 4, 4)
	checkIsPath(t, p, true, 0, 1, 3, 3, 3, 3)
	checkIsPath(t, p, false, 0, 0)
	checkIsPath(t, p, false, 0, 1, 1)
	checkIsPath(t, p, false, 4, 5)
	checkIsPath(t, p, false, 4, 4, 0)
	checkIsPath(t, program(1, 1, always, command(never)), true, 1, 1, 1)
	checkIsPath(t, program(1, 1, always, command(never)), false, 1, 1, 0)
}

func TestIsPathByItsLength(t *testing.T) {
	p := arrows(equals(0, 0), 0, 1, 1, 0)
	for _, length := range []int{0, 1, 2, 199, 200, 201, 202, 5000} {
		path := slices.Repeat([]int{0, 1}, length)[:length]
		if length == 0 || length > 200 {
			checkIsNoList(t, p, path...)
			continue
		}
		checkIsPath(t, p, true, path...)
		path[length-1] = 2
		checkIsPath(t, p, false, path...)
		path[length-1] = 8
		checkIsNoList(t, p, path...)
	}
	checkIsNoList(t, p)
}

// A number that is none of a state counts ahead of a path that is none.
func TestIsPathOfWhatIsNoState(t *testing.T) {
	p := arrows(equals(0, 0), 0, 1, 1, 0)
	for _, no := range []int{-1, 8, 9, 32, 64, 1 << 32, math.MinInt, math.MaxInt} {
		checkIsNoList(t, p, no)
		checkIsNoList(t, p, 0, no)
		checkIsNoList(t, p, 0, no, 0)
		checkIsNoList(t, p, 0, 1, 0, no)
		checkIsNoList(t, p, 3, 5, no)
		checkIsNoList(t, p, no, 0, 1)
	}
}

func TestStuckInByHand(t *testing.T) {
	checkStuck(t, arrows(equals(0, 0), 0, 5, 0, 2, 2, 3, 1, 4, 6, 7), 3, 5)
	checkStuck(t, arrows(equals(0, 0), 0, 5, 5, 0))
	checkStuck(t, arrows(equals(0, 6), 0, 5, 5, 0), 6)
	checkStuck(t, arrows(always, 0, 5, 5, 0, 1, 1), 2, 3, 4, 6, 7)
	// a command that changes nothing is enabled
	checkStuck(t, idle(3, 1, 1))
	checkStuck(t, program(3, 1, always, command(equals(0, 2)), command(equals(0, 4))), 0, 1, 3, 5, 6, 7)
	checkStuck(t, program(2, 2, equals(0, 1), command(below(1, 3), change(1, sum(1, 1)))), 13)
	checkStuck(t, program(5, 1, always, command(never)), upTo(32)...)
}

func TestHoldsInByHand(t *testing.T) {
	p := arrows(equals(0, 2), 2, 3)
	for no := range 8 {
		checkHolds(t, p, always, no, true)
		checkHolds(t, p, never, no, false)
		checkHolds(t, p, equals(0, 5), no, no == 5)
		checkHolds(t, p, below(0, 4), no, no < 4)
		checkHolds(t, p, oneOf(1, 7, 4), no, no == 1 || no == 7 || no == 4)
	}
	two := program(2, 2, never, command(never))
	for no := range 16 {
		checkHolds(t, two, nodes(impl.OpVar, 0, impl.OpVar, 1, impl.OpLess, 0), no, no%4 < no/4)
		checkHolds(t, two, equals(1, 2), no, no/4 == 2)
	}
	checkHolds(t, two, denied(47), 3, true)
	checkHolds(t, two, denied(48), 3, false)
}

func TestAlwaysInByHand(t *testing.T) {
	p := arrows(oneOf(1, 2), 2, 3, 3, 5, 0, 7)
	checkReach(t, p, 1, 2, 3, 5)
	checkAlways(t, p, always, true)
	checkAlways(t, p, never, false)
	checkAlways(t, p, below(0, 6), true)
	checkAlways(t, p, below(0, 5), false)
	checkAlways(t, p, oneOf(1, 2, 3, 5), true)
	checkAlways(t, p, oneOf(1, 2, 3), false)
	checkAlways(t, p, oneOf(2, 3, 5), false)
	checkAlways(t, p, oneOf(1, 2, 5, 6, 7), false)
	checkAlways(t, p, oneOf(0, 4, 6, 7), false)
}

func TestBackFromByHand(t *testing.T) {
	p := arrows(equals(0, 7), 0, 1, 1, 2, 2, 1, 3, 2, 4, 5)
	checkBack(t, p, nil)
	checkBack(t, p, []int{})
	checkBack(t, p, upTo(8), upTo(8)...)
	checkBack(t, p, []int{2}, 0, 1, 2, 3)
	checkBack(t, p, []int{1}, 0, 1, 2, 3)
	checkBack(t, p, []int{0}, 0)
	checkBack(t, p, []int{6}, 6)
	checkBack(t, p, []int{5}, 4, 5)
	checkBack(t, p, []int{4, 7}, 4, 7)
	checkBack(t, p, []int{3, 5}, 3, 4, 5)
	checkBack(t, p, []int{0, 1, 6}, 0, 1, 2, 3, 6)
	up := program(5, 1, never, command(below(0, 31), change(0, sum(0, 1))))
	for no := range 32 {
		checkBack(t, up, []int{no}, upTo(no+1)...)
	}
}

func TestBackFromWrongLists(t *testing.T) {
	p := arrows(always, 0, 1, 1, 2)
	for _, some := range [][]int{{1, 1}, {2, 1}, {0, 1, 1}, {0, 2, 1}, {7, 0}, {1, 2, 3, 0}, slices.Repeat([]int{3}, 5000)} {
		checkNoBack(t, p, some...)
	}
	for _, no := range []int{8, 9, 32, 64, 1 << 32, math.MaxInt} {
		checkNoBack(t, p, no)
		checkNoBack(t, p, 0, no)
		checkNoBack(t, p, 0, 7, no)
		checkNoBack(t, p, no, no+1)
	}
	for _, no := range []int{-1, -2, -8, math.MinInt} {
		checkNoBack(t, p, no)
		checkNoBack(t, p, no, 0)
		checkNoBack(t, p, no, 0, 7)
	}
	checkNoBack(t, p, upTo(9)...)
	checkNoBack(t, p, upTo(5000)...)
}

// silentReach asks for the zero answer of each function of the chapter.
func silentReach(t *testing.T, name string, p impl.Program) {
	t.Helper()
	for _, l := range [][]int{nil, {0}, {0, 1}, {-1}, upTo(32)} {
		noOneTold[bool](t, name, "IsPath", l)(impl.IsPath(p, l))
		noListTold(t, name, "BackFrom", l)(impl.BackFrom(p, l))
	}
	for _, no := range []int{0, 1, 5, 31, 32, -1, math.MinInt, math.MaxInt} {
		silentNumber(t, name, p, no)
	}
	silentConditions(t, name, p, always, 0)
	noListTold(t, name, "Starts")(impl.Starts(p))
	noListTold(t, name, "ReachOf")(impl.ReachOf(p))
	noListTold(t, name, "StuckIn")(impl.StuckIn(p))
}

func silentNumber(t *testing.T, name string, p impl.Program, no int) {
	t.Helper()
	noListTold(t, name, "NextOf", no)(impl.NextOf(p, no))
	noOneTold[int](t, name, "StepsTo", no)(impl.StepsTo(p, no))
	noListTold(t, name, "PathTo", no)(impl.PathTo(p, no))
	noOneTold[bool](t, name, "HoldsIn", no)(impl.HoldsIn(p, always, no))
}

func silentConditions(t *testing.T, name string, p impl.Program, u []impl.Node, no int) {
	t.Helper()
	noOneTold[bool](t, name, "HoldsIn", u, no)(impl.HoldsIn(p, u, no))
	noOneTold[bool](t, name, "AlwaysIn", u)(impl.AlwaysIn(p, u))
}

// asSmall has a lesser Wide, with which the program, were it good, would be small.
func asSmall(p impl.Program) impl.Program {
	if p.Wide == 4 && p.Vars < 3 {
		p.Wide = 2
	} else if p.Wide == 4 {
		p.Wide = 1
	}
	return p
}

func TestReachOfProgramsThatAreNotGood(t *testing.T) {
	for name, p := range badPrograms {
		silentReach(t, name, asSmall(p))
	}
	for name, u := range notGood {
		for _, p := range withNotGood(u) {
			silentReach(t, name, asSmall(p))
		}
	}
}

func TestReachOfProgramsThatAreNotSmall(t *testing.T) {
	for _, shape := range looseShapes {
		p := idle(shape[0], shape[1], 2)
		if !impl.GoodProgram(p) {
			t.Error("not good", shape)
		}
		silentReach(t, "not small", p)
	}
}

func TestReachAtWhatIsNoState(t *testing.T) {
	for _, shape := range smallShapes {
		p, count := idle(shape[0], shape[1], 1), 1<<(shape[0]*shape[1])
		for _, no := range []int{-1, -2, -count, count, count + 1, 2 * count, 64, 1 << 32, 1 << 62, math.MinInt, math.MaxInt} {
			silentNumber(t, "no state", p, no)
			checkIsNoList(t, p, no)
			checkNoBack(t, p, no)
		}
		for no := range count {
			checkNext(t, p, no, no)
			checkPath(t, p, no)
			checkHolds(t, p, always, no, true)
			checkIsPath(t, p, true, no)
			checkBack(t, p, []int{no}, no)
		}
	}
}

func TestConditionsThatAreNone(t *testing.T) {
	some, nowhere := program(2, 2, equals(0, 1), command(always)), program(2, 2, never, command(always))
	terms := map[string][]impl.Node{
		"a number":            number(1),
		"a variable":          variable(0),
		"a sum":               sum(0, 1),
		"a number too great":  equals(0, 4),
		"a variable too far":  equals(2, 1),
		"a node too many":     denied(49),
		"far too many":        denied(4999),
		"two conditions":      append(slices.Clone(always), always...),
		"a condition too few": nodes(impl.OpYes, 1, impl.OpBoth, 0),
		"nothing":             nil,
	}
	for name, u := range notGood {
		terms["no term: "+name] = u
	}
	for name, u := range terms {
		for no := range 16 {
			silentConditions(t, name, some, u, no)
			silentConditions(t, name, nowhere, u, no)
		}
	}
}
