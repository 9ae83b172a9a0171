package tests

import (
	"slices"
	"testing"

	"loop.example/g00649/impl"
)

// world is a small program taken apart by the tests' own search, whose members go by the numbers of the states.
type world struct {
	states [][]uint64
	starts []bool
	stuck  []bool
	next   [][]int
	// after tells for each number of steps, from none on, and each state the least list with so many steps to it, none where there is none.
	after [][][]int
}

func worldOf(p impl.Program) world {
	var w world
	for no := range 1 << (p.Wide * p.Vars) {
		s, left := []uint64{}, no
		for range p.Vars {
			s, left = append(s, uint64(left%(1<<p.Wide))), left/(1<<p.Wide)
		}
		w.states = append(w.states, s)
		w.starts = append(w.starts, worth(p.Wide, p.Start, s) == 1)
	}
	for no, s := range w.states {
		enabled := enabledWant(p, s)
		var led [][]uint64
		for _, k := range enabled {
			by, _ := stepWant(p, s, k)
			led = append(led, by)
		}
		next := w.where(func(to int) bool {
			in := func(state []uint64) bool { return slices.Equal(state, w.states[to]) }
			return len(led) == 0 && to == no || slices.ContainsFunc(led, in)
		})
		w.stuck, w.next = append(w.stuck, len(enabled) == 0), append(w.next, next)
	}
	w.after = w.search()
	return w
}

func (w world) search() [][][]int {
	now := make([][]int, len(w.states))
	for no, is := range w.starts {
		if is {
			now[no] = []int{no}
		}
	}
	after := [][][]int{now}
	for range w.states {
		ahead := now
		now = make([][]int, len(w.states))
		for from, list := range ahead {
			for _, to := range w.next[from] {
				longer := append(slices.Clone(list), to)
				if list != nil && (now[to] == nil || slices.Compare(longer, now[to]) < 0) {
					now[to] = longer
				}
			}
		}
		after = append(after, now)
	}
	return after
}

// shortest is the least of the shortest lists to a state, none where it is not reached.
func (w world) shortest(no int) []int {
	for _, lists := range w.after {
		if lists[no] != nil {
			return lists[no]
		}
	}
	return nil
}

func (w world) where(is func(no int) bool) []int {
	var list []int
	for no := range w.states {
		if is(no) {
			list = append(list, no)
		}
	}
	return list
}

// back goes on from each state as long as something new is met.
func (w world) back(some []int) []int {
	return w.where(func(no int) bool {
		met := []int{no}
		for k := 0; k < len(met); k++ {
			for _, to := range w.next[met[k]] {
				if !slices.Contains(met, to) {
					met = append(met, to)
				}
			}
		}
		return slices.ContainsFunc(met, func(m int) bool { return slices.Contains(some, m) })
	})
}

// walker draws a small program with few starts, commands that are enabled in many states, and so long paths, and several to one state.
func (d drawer) walker(wide, vars int) impl.Program {
	word := func() int { return d.Intn(1 << wide) }
	bit := func() []impl.Node {
		place := 1 << d.Intn(wide)
		return nodes(impl.OpVar, d.Intn(vars), impl.OpNum, place, impl.OpAnd, 0, impl.OpNum, place*d.Intn(2), impl.OpEq, 0)
	}
	start := [][]impl.Node{never, bit()}[d.Intn(2)]
	if d.Intn(8) > 0 {
		start = always
		for v := range vars {
			start = slices.Concat(start, equals(v, word()), nodes(impl.OpBoth, 0))
		}
	}
	p := program(wide, vars, start)
	for range 2 + d.Intn(impl.MaxCommands-1) {
		c := command([][]impl.Node{always, bit(), bit(), below(d.Intn(vars), word())}[d.Intn(4)])
		at := d.Intn(vars)
		for v := range vars {
			line := nodes(impl.OpVar, d.Intn(vars), impl.OpNum, word()|1, impl.OpMul, 0, impl.OpNum, word(), impl.OpAdd, 0)
			if v == at || d.Intn(3) == 0 {
				c.Changes = append(c.Changes, change(v, [][]impl.Node{line, sum(v, word()), number(word())}[d.Intn(3)]))
			}
		}
		p.Commands = append(p.Commands, c)
	}
	return p
}

// everyWorld draws programs of all small shapes, walkers and plain ones.
func everyWorld(seed int64, count int, f func(d drawer, p impl.Program, w world)) {
	d := newDrawer(seed)
	for k := range count {
		shape := smallShapes[k%len(smallShapes)]
		p := d.walker(shape[0], shape[1])
		if d.Intn(4) == 0 {
			p = d.program(shape[0], shape[1])
		}
		f(d, p, worldOf(p))
	}
}

func TestNextStartsAndStuckOfDrawnPrograms(t *testing.T) {
	everyWorld(88, 1500, func(_ drawer, p impl.Program, w world) {
		for no := range w.states {
			checkNext(t, p, no, w.next[no]...)
		}
		checkStarts(t, p, w.where(func(no int) bool { return w.starts[no] })...)
		checkStuck(t, p, w.where(func(no int) bool { return w.stuck[no] && w.shortest(no) != nil })...)
	})
}

// Promise 8, against the tests' own search.
func TestReachIsJustWhatCanBeReached(t *testing.T) {
	counts := map[string]int{}
	everyWorld(89, 2500, func(_ drawer, p impl.Program, w world) {
		checkReach(t, p, w.where(func(no int) bool { return w.shortest(no) != nil })...)
		for no := range w.states {
			path := w.shortest(no)
			counts[[]string{"not reached", "a start", "one step", "two", "three", "more", "more", "many"}[min(len(path), 7)]]++
			if path == nil {
				checkNoPath(t, p, no)
				continue
			}
			checkPath(t, p, path...)
			checkIsPath(t, p, true, path...)
		}
	})
	for _, sort := range []string{"not reached", "a start", "one step", "two", "three", "more", "many"} {
		if counts[sort] < 300 {
			t.Error("too few of a sort", counts)
		}
	}
}

// Promise 8, in its own words: what is reached is closed, holds the starts, and has a path each, and none is shorter.
func TestReachByItsOwnAnswers(t *testing.T) {
	everyWorld(90, 1500, func(_ drawer, p impl.Program, w world) {
		reach, ok := impl.ReachOf(p)
		starts, ok2 := impl.Starts(p)
		if !ok || !ok2 {
			t.Fatal(p)
		}
		for _, no := range starts {
			if n, ok := impl.StepsTo(p, no); n != 0 || !ok || !slices.Contains(reach, no) {
				t.Errorf("start %d of %v: %d, %v", no, p, n, ok)
			}
		}
		for _, no := range reach {
			steps, _ := impl.StepsTo(p, no)
			next, _ := impl.NextOf(p, no)
			for _, to := range next {
				if n, ok := impl.StepsTo(p, to); n > steps+1 || !ok || !slices.Contains(reach, to) {
					t.Errorf("state %d, next of %d, of %v: %d, %v", to, no, p, n, ok)
				}
			}
			path, ok := impl.PathTo(p, no)
			if !ok || len(path) != steps+1 || path[steps] != no {
				t.Fatalf("PathTo(%v, %d): %v, %v", p, no, path, ok)
			}
			checkIsPath(t, p, true, path...)
		}
	})
}

// Of several shortest lists the least one is told: any other of them is none, or greater.
func TestSeveralShortestPaths(t *testing.T) {
	several := 0
	everyWorld(91, 2500, func(_ drawer, p impl.Program, w world) {
		for no := range w.states {
			path := w.shortest(no)
			if len(path) < 3 {
				continue
			}
			from := w.where(func(k int) bool {
				other := w.after[len(path)-2][k]
				return other != nil && slices.Contains(w.next[k], no)
			})
			if len(from) > 1 {
				several++
				got, ok := impl.PathTo(p, no)
				for _, k := range from {
					other := append(slices.Clone(w.after[len(path)-2][k]), no)
					checkIsPath(t, p, true, other...)
					if !ok || slices.Compare(got, other) > 0 {
						t.Errorf("PathTo(%v, %d): %v, but %v is less", p, no, got, other)
					}
				}
			}
		}
	})
	if several < 300 {
		t.Error("too few states with several shortest paths", several)
	}
}

func TestIsPathOfDrawnLists(t *testing.T) {
	counts := map[bool]int{}
	everyWorld(92, 2000, func(d drawer, p impl.Program, w world) {
		for range 8 {
			path := []int{d.Intn(len(w.states))}
			if starts := w.where(func(no int) bool { return w.starts[no] }); len(starts) > 0 && d.Intn(6) > 0 {
				path[0] = d.of(starts)
			}
			for range d.Intn(12) {
				path = append(path, d.of(w.next[path[len(path)-1]]))
			}
			if d.Intn(2) == 0 {
				path[d.Intn(len(path))] = d.Intn(len(w.states))
			}
			want := w.starts[path[0]]
			for k, no := range path[1:] {
				want = want && slices.Contains(w.next[path[k]], no)
			}
			counts[want]++
			checkIsPath(t, p, want, path...)
		}
	})
	if counts[true] < 1000 || counts[false] < 1000 {
		t.Error("too few of a sort", counts)
	}
}

func TestConditionsOfDrawnPrograms(t *testing.T) {
	counts := map[string]int{}
	everyWorld(93, 2000, func(d drawer, p impl.Program, w world) {
		for range 4 {
			u := d.term(p.Wide, p.Vars, 2, 1+d.Intn(9))
			everywhere, inReach := true, true
			for no, s := range w.states {
				holds := worth(p.Wide, u, s) == 1
				checkHolds(t, p, u, no, holds)
				everywhere = everywhere && holds
				inReach = inReach && (holds || w.shortest(no) == nil)
			}
			counts[map[bool]string{true: "in all", false: "in none or some"}[everywhere]]++
			if inReach && !everywhere {
				counts["in all that are reached alone"]++
			}
			checkAlways(t, p, u, inReach)
		}
	})
	if len(counts) != 3 || counts["in all"] < 300 || counts["in all that are reached alone"] < 300 {
		t.Error("too few of a sort", counts)
	}
}

func TestBackFromOfDrawnPrograms(t *testing.T) {
	counts := map[string]int{}
	everyWorld(94, 2000, func(d drawer, p impl.Program, w world) {
		for k := range 4 {
			some := w.where(func(int) bool { return k > 0 && d.Intn(4*k) == 0 })
			want := w.back(some)
			checkBack(t, p, some, want...)
			if len(want) > len(some) && len(want) < len(w.states) {
				counts["more, and not all"]++
			}
			if len(some) == 0 {
				counts["none"]++
			}
		}
	})
	if counts["more, and not all"] < 300 || counts["none"] < 300 {
		t.Error("too few of a sort", counts)
	}
}
