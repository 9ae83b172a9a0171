package tests

import (
	"math"
	"slices"
	"testing"

	"loop.example/g00649/impl"
)

// stepWant reckons by whole numbers.
func stepWant(p impl.Program, s []uint64, k int) ([]uint64, bool) {
	if k < 0 || k >= len(p.Commands) || worth(p.Wide, p.Commands[k].When, s) != 1 {
		return nil, false
	}
	next := slices.Clone(s)
	for _, c := range p.Commands[k].Changes {
		next[c.Var] = worth(p.Wide, c.By, s)
	}
	return next, true
}

func enabledWant(p impl.Program, s []uint64) []int {
	var out []int
	for k := range p.Commands {
		if _, ok := stepWant(p, s, k); ok {
			out = append(out, k)
		}
	}
	return out
}

func playWant(p impl.Program, s []uint64, ks []int) ([][]uint64, []bool) {
	var states [][]uint64
	var did []bool
	for _, k := range ks {
		next, ok := stepWant(p, s, k)
		if ok {
			s = next
		}
		states, did = append(states, s), append(did, ok)
	}
	return states, did
}

func checkStart(t *testing.T, p impl.Program, want bool, s ...uint64) {
	t.Helper()
	if is, ok := impl.IsStart(p, s); is != want || !ok {
		t.Errorf("IsStart(%v, %v): %v, %v", p, s, is, ok)
	}
}

func checkEnabled(t *testing.T, p impl.Program, s []uint64, want ...int) {
	t.Helper()
	if l, ok := impl.Enabled(p, s); !slices.Equal(l, want) || !ok {
		t.Errorf("Enabled(%v, %v): %v, %v, not %v", p, s, l, ok, want)
	}
}

func checkStep(t *testing.T, p impl.Program, s []uint64, k int, want ...uint64) {
	t.Helper()
	if next, ok := impl.StepBy(p, s, k); !slices.Equal(next, want) || !ok {
		t.Errorf("StepBy(%v, %v, %d): %v, %v, not %v", p, s, k, next, ok, want)
	}
}

func checkNoStep(t *testing.T, name string, p impl.Program, s []uint64, k int) {
	t.Helper()
	if next, ok := impl.StepBy(p, s, k); len(next) != 0 || ok {
		t.Errorf("%s: StepBy(.., %v, %d): %v, %v", name, s, k, next, ok)
	}
}

func checkPlay(t *testing.T, p impl.Program, s []uint64, ks []int, states [][]uint64, did []bool) {
	t.Helper()
	gotStates, gotDid, ok := impl.PlayCommands(p, s, ks)
	if !ok || !slices.EqualFunc(gotStates, states, slices.Equal[[]uint64]) || !slices.Equal(gotDid, did) {
		t.Errorf("PlayCommands(%v, %v, %v): %v, %v, %v, not %v, %v", p, s, ks, gotStates, gotDid, ok, states, did)
	}
}

func checkNoPlay(t *testing.T, name string, p impl.Program, s []uint64, ks []int) {
	t.Helper()
	if states, did, ok := impl.PlayCommands(p, s, ks); len(states) != 0 || len(did) != 0 || ok {
		t.Errorf("%s: PlayCommands(.., %v, %v): %v, %v, %v", name, s, ks, states, did, ok)
	}
}

func checkNumber(t *testing.T, p impl.Program, no int, s ...uint64) {
	t.Helper()
	if n, ok := impl.StateNo(p, s); n != no || !ok {
		t.Errorf("StateNo(%v, %v): %d, %v, not %d", p, s, n, ok, no)
	}
	if state, ok := impl.StateOf(p, no); !slices.Equal(state, s) || !ok {
		t.Errorf("StateOf(%v, %d): %v, %v, not %v", p, no, state, ok, s)
	}
}

func checkNoState(t *testing.T, p impl.Program, no int) {
	t.Helper()
	if s, ok := impl.StateOf(p, no); len(s) != 0 || ok {
		t.Errorf("StateOf(%v, %d): %v, %v", p, no, s, ok)
	}
}

func TestIsStartByHand(t *testing.T) {
	p := program(2, 2, nodes(impl.OpVar, 0, impl.OpVar, 1, impl.OpLess, 0), command(never))
	for a := range uint64(4) {
		for b := range uint64(4) {
			checkStart(t, p, a < b, a, b)
		}
	}
	checkStart(t, program(64, 1, always, command(never)), true, math.MaxUint64)
	checkStart(t, program(64, 1, never, command(always)), false, math.MaxUint64)
	signed := program(3, 1, nodes(impl.OpVar, 0, impl.OpNum, 0, impl.OpLessS, 0), command(always))
	for a := range uint64(8) {
		checkStart(t, signed, a >= 4, a)
	}
}

func TestEnabledByHand(t *testing.T) {
	p := program(2, 2, never,
		command(below(0, 2)),
		command(equals(1, 3), change(0, number(1))),
		command(below(0, 3), change(1, number(1))),
		command(nodes(impl.OpVar, 0, impl.OpVar, 1, impl.OpEq, 0)))
	checkEnabled(t, p, []uint64{3, 0})
	checkEnabled(t, p, []uint64{3, 3}, 1, 3)
	checkEnabled(t, p, []uint64{3, 1})
	checkEnabled(t, p, []uint64{2, 2}, 2, 3)
	checkEnabled(t, p, []uint64{2, 0}, 2)
	checkEnabled(t, p, []uint64{0, 3}, 0, 1, 2)
	checkEnabled(t, p, []uint64{1, 1}, 0, 2, 3)
	checkEnabled(t, idle(5, 3, 6), []uint64{31, 0, 31}, 0, 1, 2, 3, 4, 5)
	none := program(1, 1, always, slices.Repeat([]impl.Command{command(never)}, 6)...)
	checkEnabled(t, none, []uint64{0})
	checkEnabled(t, none, []uint64{1})
}

func TestStepByByHand(t *testing.T) {
	swap := program(4, 2, always,
		command(always, change(0, variable(1)), change(1, variable(0))),
		command(always, change(0, sum(0, 1)), change(1, variable(0))),
		command(always, change(1, nodes(impl.OpVar, 1, impl.OpVar, 0, impl.OpSub, 0))),
		command(equals(0, 3), change(0, number(0))),
		command(equals(0, 3)))
	checkStep(t, swap, []uint64{3, 9}, 0, 9, 3)
	checkStep(t, swap, []uint64{3, 9}, 1, 4, 3)
	checkStep(t, swap, []uint64{15, 9}, 1, 0, 15)
	checkStep(t, swap, []uint64{3, 2}, 2, 3, 15)
	checkStep(t, swap, []uint64{3, 2}, 3, 0, 2)
	checkStep(t, swap, []uint64{3, 2}, 4, 3, 2)
	for _, k := range append([]int{3, 4, 5}, oddPlaces...) {
		checkNoStep(t, "not enabled", swap, []uint64{2, 2}, k)
	}
	round := program(64, 4, always, command(always, change(0, variable(1)), change(1, variable(2)), change(2, variable(3)), change(3, variable(0))))
	checkStep(t, round, []uint64{1, 2, math.MaxUint64, 4}, 0, 2, math.MaxUint64, 4, 1)
	for _, k := range append([]int{1, 2}, oddPlaces...) {
		checkNoStep(t, "no command", round, []uint64{1, 2, 3, 4}, k)
	}
	// Each reads the one that is changed ahead of it in the list.
	stairs := program(8, 4, always, command(always, change(0, sum(0, 1)), change(1, sum(0, 0)), change(2, sum(1, 0)), change(3, sum(2, 0))))
	checkStep(t, stairs, []uint64{10, 20, 30, 40}, 0, 11, 10, 20, 30)
}

func TestStepsOfDrawnPrograms(t *testing.T) {
	done := map[bool]int{}
	everyProgram(83, 2500, func(d drawer, p impl.Program) {
		s := d.state(p.Wide, p.Vars)
		checkStart(t, p, worth(p.Wide, p.Start, s) == 1, s...)
		checkEnabled(t, p, s, enabledWant(p, s)...)
		for k := range p.Commands {
			next, ok := stepWant(p, s, k)
			done[ok]++
			if ok {
				checkStep(t, p, s, k, next...)
			} else {
				checkNoStep(t, "not enabled", p, s, k)
			}
		}
		for _, k := range append([]int{len(p.Commands)}, oddPlaces...) {
			checkNoStep(t, "no command", p, s, k)
		}
	})
	if done[true] < 1000 || done[false] < 1000 {
		t.Error("too few of a sort", done)
	}
}

// Promise 7: commands that are apart go in either order.
func TestApartCommandsGoInEitherOrder(t *testing.T) {
	both, moved := 0, 0
	everyProgram(84, 4000, func(d drawer, p impl.Program) {
		s := d.state(p.Wide, p.Vars)
		enabled, _ := impl.Enabled(p, s)
		for _, k := range enabled {
			for _, m := range enabled {
				if is, ok := impl.Apart(p, k, m); !is || !ok {
					continue
				}
				byK, _ := impl.StepBy(p, s, k)
				byM, _ := impl.StepBy(p, s, m)
				first, ok := impl.StepBy(p, byK, m)
				second, ok2 := impl.StepBy(p, byM, k)
				if !ok || !ok2 || !slices.Equal(first, second) {
					t.Fatalf("%v at %v: by %d and %d %v, %v, the other way round %v, %v", p, s, k, m, first, ok, second, ok2)
				}
				both++
				if !slices.Equal(byK, s) && !slices.Equal(byM, s) {
					moved++
				}
			}
		}
	})
	if both < 2000 || moved < 200 {
		t.Error("too few of a sort", both, moved)
	}
}

// Promise 7: what a command does not change stays.
func TestWhatACommandDoesNotChangeStays(t *testing.T) {
	stayed := 0
	everyProgram(85, 2000, func(d drawer, p impl.Program) {
		s := d.state(p.Wide, p.Vars)
		enabled, _ := impl.Enabled(p, s)
		for _, k := range enabled {
			next, ok := impl.StepBy(p, s, k)
			_, changes, ok2 := impl.TouchedBy(p, k)
			if !ok || !ok2 || len(next) != p.Vars {
				t.Fatalf("%v at %v: %v, %v, %v", p, s, next, ok, ok2)
			}
			for v := range next {
				if slices.Contains(changes, v) {
					continue
				}
				stayed++
				if next[v] != s[v] {
					t.Fatalf("%v at %v: command %d changes variable %d: %v", p, s, k, v, next)
				}
			}
		}
	})
	if stayed < 2000 {
		t.Error("too few", stayed)
	}
}

func TestPlayCommandsByHand(t *testing.T) {
	p := program(2, 2, always,
		command(below(0, 3), change(0, sum(0, 1))),
		command(equals(0, 3), change(0, variable(1)), change(1, variable(0))))
	s := []uint64{2, 1}
	checkPlay(t, p, s, nil, nil, nil)
	checkPlay(t, p, s, []int{}, nil, nil)
	checkPlay(t, p, s, []int{0}, [][]uint64{{3, 1}}, []bool{x})
	checkPlay(t, p, s, []int{1}, [][]uint64{{2, 1}}, []bool{o})
	checkPlay(t, p, s, []int{1, 0, 0, 1, 2, 0, 1, -1},
		[][]uint64{{2, 1}, {3, 1}, {3, 1}, {1, 3}, {1, 3}, {2, 3}, {2, 3}, {2, 3}},
		[]bool{o, x, o, x, o, x, o, o})
	for _, k := range append([]int{2, 3}, oddPlaces...) {
		checkPlay(t, p, s, []int{k, 0, k}, [][]uint64{s, {3, 1}, {3, 1}}, []bool{o, x, o})
	}
	// A command that changes nothing, or to what stood there, is done all the same.
	still := program(2, 1, always, command(always), command(always, change(0, variable(0))), command(never))
	checkPlay(t, still, []uint64{3}, []int{0, 1, 2}, [][]uint64{{3}, {3}, {3}}, []bool{x, x, o})
}

func TestPlayCommandsAtItsLimit(t *testing.T) {
	p := program(8, 1, always, command(below(0, 55), change(0, sum(0, 1))))
	for _, length := range []int{0, 1, 59, 60, 61, 62, 5000} {
		for _, k := range []int{0, 1, -1} {
			ks := slices.Repeat([]int{k}, length)
			if length > impl.MaxPlay {
				checkNoPlay(t, "too many numbers", p, []uint64{0}, ks)
				continue
			}
			states, did := playWant(p, []uint64{0}, ks)
			checkPlay(t, p, []uint64{0}, ks, states, did)
		}
	}
	states, did, _ := impl.PlayCommands(p, []uint64{0}, make([]int, 60))
	if len(states) != 60 || states[53][0] != 54 || states[54][0] != 55 || states[59][0] != 55 || !did[54] || did[55] {
		t.Error(states, did)
	}
}

func TestPlaysOfDrawnPrograms(t *testing.T) {
	done := map[bool]int{}
	everyProgram(86, 1200, func(d drawer, p impl.Program) {
		var ks []int
		for range d.Intn(20) {
			ks = append(ks, d.Intn(len(p.Commands)+2)-1)
		}
		s := d.state(p.Wide, p.Vars)
		states, did := playWant(p, s, ks)
		checkPlay(t, p, s, ks, states, did)
		for _, is := range did {
			done[is]++
		}
	})
	if done[true] < 1000 || done[false] < 1000 {
		t.Error("too few of a sort", done)
	}
}

// The greatest program, with the longest terms.
func TestPlayOfTheGreatestProgram(t *testing.T) {
	var changes []impl.Change
	for v := range impl.MaxVars {
		by := flipped(46)
		by[0] = impl.Node{Op: impl.OpVar, N: uint64(3 - v)}
		changes = append(changes, change(v, append(by, nodes(impl.OpNum, v, impl.OpAdd, 0)...)))
	}
	p := program(64, 4, denied(48), slices.Repeat([]impl.Command{command(denied(47), changes...)}, 6)...)
	var ks []int
	for k := range impl.MaxPlay {
		ks = append(ks, k%6)
	}
	s := []uint64{math.MaxUint64, 1 << 63, 5, 0}
	states, did := playWant(p, s, ks)
	checkPlay(t, p, s, ks, states, did)
	if !impl.GoodProgram(p) || len(states) != 60 {
		t.Error(len(states))
	}
}

// Each state of all small programs has its number, by counting.
func TestNumbersOfStates(t *testing.T) {
	for _, shape := range smallShapes {
		p := idle(shape[0], shape[1], 1)
		count := 0
		state := make([]uint64, p.Vars)
		for full := false; !full; count++ {
			checkNumber(t, p, count, state...)
			v := 0
			for v < p.Vars && state[v] == greatest(p.Wide) {
				state[v] = 0
				v++
			}
			if full = v == p.Vars; !full {
				state[v]++
			}
		}
		for _, no := range []int{-1, -2, count, count + 1, 2 * count, 64, 1 << 32, 1 << 62, math.MinInt, math.MaxInt} {
			checkNoState(t, p, no)
		}
		if count > 32 {
			t.Error(shape, count)
		}
	}
}

func TestNumbersByHand(t *testing.T) {
	checkNumber(t, idle(2, 2, 1), 9, 1, 2)
	checkNumber(t, idle(2, 2, 1), 6, 2, 1)
	checkNumber(t, idle(2, 2, 1), 15, 3, 3)
	checkNumber(t, idle(1, 4, 1), 6, 0, 1, 1, 0)
	checkNumber(t, idle(1, 4, 1), 8, 0, 0, 0, 1)
	checkNumber(t, idle(1, 3, 1), 4, 0, 0, 1)
	checkNumber(t, idle(5, 1, 1), 31, 31)
	checkNumber(t, idle(1, 1, 1), 0, 0)
}

func TestNumbersOfProgramsThatAreNotSmall(t *testing.T) {
	for _, shape := range looseShapes {
		p := idle(shape[0], shape[1], 2)
		for _, word := range []uint64{0, 1, greatest(p.Wide)} {
			s := slices.Repeat([]uint64{word}, p.Vars)
			if n, ok := impl.StateNo(p, s); n != 0 || ok {
				t.Errorf("StateNo(%v, %v): %d, %v", p, s, n, ok)
			}
			checkStart(t, p, true, s...)
		}
		for _, no := range []int{0, 1, 5, 31, 32, 63, -1, math.MaxInt} {
			checkNoState(t, p, no)
		}
	}
}

// Of states that are none each function tells the zero answer, though the program is good.
func TestStatesThatAreNone(t *testing.T) {
	for _, shape := range append(slices.Clone(smallShapes), looseShapes...) {
		p := idle(shape[0], shape[1], 3)
		for _, length := range []int{0, 1, 2, 3, 4, 5, 64, 5000} {
			if length != p.Vars {
				silentAt(t, "another length", p, make([]uint64, length))
			}
		}
		for v := range p.Vars {
			s := slices.Repeat([]uint64{greatest(p.Wide)}, p.Vars)
			checkStart(t, p, true, s...)
			checkEnabled(t, p, s, 0, 1, 2)
			checkStep(t, p, s, 2, s...)
			if p.Wide == impl.MaxWide {
				continue
			}
			for _, word := range []uint64{greatest(p.Wide) + 1, greatest(p.Wide) + 2, 1 << 63, math.MaxUint64} {
				s[v] = word
				silentAt(t, "a word too great", p, s)
			}
		}
	}
}
