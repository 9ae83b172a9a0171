package tests

import (
	"math"
	"slices"
	"strings"
	"testing"

	"loop.example/g00649/impl"
)

// gateClauses are the clauses of each kind of gate that takes wires, as the document writes them.
var gateClauses = map[int]string{
	impl.GtNot: "w a,-w -a",
	impl.GtAnd: "-w a,-w b,w -a -b",
	impl.GtOr:  "w -a,w -b,-w a b",
	impl.GtXor: "-w a b,-w -a -b,w -a b,w a -b",
}

func gateClausesWant(g impl.Gate, w int) [][]int {
	if g.Kind == impl.GtBit {
		return [][]int{{w * (2*g.A - 1)}}
	}
	var out [][]int
	for _, text := range strings.Split(gateClauses[g.Kind], ",") {
		var clause []int
		for _, word := range strings.Fields(text) {
			literal := map[byte]int{'w': w, 'a': g.A + 1, 'b': g.B + 1}[word[len(word)-1]]
			if word[0] == '-' {
				literal = -literal
			}
			clause = append(clause, literal)
		}
		out = append(out, clause)
	}
	return out
}

func cnfWant(c impl.Circuit, want []bool) impl.Cnf {
	out := impl.Cnf{Names: wiresOf(c)}
	for k, g := range c.Gates {
		out.Clauses = append(out.Clauses, gateClausesWant(g, c.Ins+k+1)...)
	}
	for k, is := range want {
		literal := c.Outs[k] + 1
		if !is {
			literal = -literal
		}
		out.Clauses = append(out.Clauses, []int{literal})
	}
	return out
}

func sameCnf(a impl.Cnf, b impl.Cnf) bool {
	return a.Names == b.Names && slices.EqualFunc(a.Clauses, b.Clauses, slices.Equal[[]int])
}

func checkCnfFor(t *testing.T, c impl.Circuit, want []bool, clauses impl.Cnf) {
	t.Helper()
	f, ok := impl.CnfFor(c, want)
	if !ok || !sameCnf(f, clauses) || !impl.GoodCnf(f) {
		t.Fatalf("CnfFor(%v, %v): %v, %v, not %v", c, want, f, ok, clauses)
	}
}

func checkNoCnf(t *testing.T, name string, c impl.Circuit, want []bool) {
	t.Helper()
	if f, ok := impl.CnfFor(c, want); ok || !sameCnf(f, impl.Cnf{}) {
		t.Errorf("%s: %v, %v", name, f, ok)
	}
}

func TestCnfForByHand(t *testing.T) {
	for _, row := range []struct {
		c    impl.Circuit
		want []bool
		f    impl.Cnf
	}{
		{impl.Circuit{}, nil, cnf(0)},
		{impl.Circuit{Ins: 16}, nil, cnf(16)},
		{impl.Circuit{Ins: 2, Outs: []int{1, 0, 1}}, []bool{x, o, o}, cnf(2, []int{2}, []int{-1}, []int{-2})},
		{impl.Circuit{Gates: gates(impl.GtBit, 1, 0)}, nil, cnf(1, []int{1})},
		{impl.Circuit{Gates: gates(impl.GtBit, 0, 0)}, nil, cnf(1, []int{-1})},
		{impl.Circuit{Ins: 3, Gates: gates(impl.GtBit, 1, 0, impl.GtBit, 0, 0), Outs: []int{4, 3}}, []bool{x, o},
			cnf(5, []int{4}, []int{-5}, []int{5}, []int{-4})},
		{impl.Circuit{Ins: 2, Gates: gates(impl.GtNot, 0, 0), Outs: []int{2}}, []bool{x}, cnf(3, []int{3, 1}, []int{-3, -1}, []int{3})},
		{impl.Circuit{Ins: 2, Gates: gates(impl.GtAnd, 0, 1), Outs: []int{2}}, []bool{o},
			cnf(3, []int{-3, 1}, []int{-3, 2}, []int{3, -1, -2}, []int{-3})},
		{impl.Circuit{Ins: 2, Gates: gates(impl.GtOr, 1, 0)}, nil, cnf(3, []int{3, -2}, []int{3, -1}, []int{-3, 2, 1})},
		{impl.Circuit{Ins: 2, Gates: gates(impl.GtXor, 0, 1)}, nil,
			cnf(3, []int{-3, 1, 2}, []int{-3, -1, -2}, []int{3, -1, 2}, []int{3, 1, -2})},
		{impl.Circuit{Ins: 1, Gates: gates(impl.GtXor, 0, 0)}, nil,
			cnf(2, []int{-2, 1, 1}, []int{-2, -1, -1}, []int{2, -1, 1}, []int{2, 1, -1})},
		{impl.Circuit{Ins: 1, Gates: gates(impl.GtNot, 0, 0, impl.GtAnd, 1, 0), Outs: []int{2, 2, 0}}, []bool{x, x, o},
			cnf(3, []int{2, 1}, []int{-2, -1}, []int{-3, 2}, []int{-3, 1}, []int{3, -2, -1}, []int{3}, []int{3}, []int{-1})},
	} {
		checkCnfFor(t, row.c, row.want, row.f)
		if !sameCnf(cnfWant(row.c, row.want), row.f) {
			t.Errorf("the tests' own clauses of %v differ: %v", row.c, cnfWant(row.c, row.want))
		}
	}
}

// What the wires carry is all that meets the clauses: given what comes in each wire is forced.
func TestCnfForOfDrawnCircuits(t *testing.T) {
	everyCircuit(70, 200, func(d drawer, c impl.Circuit) {
		everyIns(d, min(c.Ins, 4), func(ins []bool) {
			ins = append(ins, d.bits(c.Ins-len(ins))...)
			wires, outs := wiresWant(c, ins), []bool(nil)
			for _, wire := range c.Outs {
				outs = append(outs, wires[wire])
			}
			checkCnfFor(t, c, outs, cnfWant(c, outs))
			f, _ := impl.CnfFor(c, outs)
			if is, ok := impl.Meets(f, wires); !is || !ok {
				t.Fatalf("the wires %v of %v meet not %v", wires, c, f)
			}
			given, all := []int(nil), []int(nil)
			for k, is := range wires {
				all = append(all, map[bool]int{o: -k - 1, x: k + 1}[is])
			}
			given = slices.Clone(all[:c.Ins])
			checkForced(t, f, given, all, false)
			if len(outs) == 0 {
				return
			}
			place := d.Intn(len(outs))
			outs[place] = !outs[place]
			f, _ = impl.CnfFor(c, outs)
			checkForced(t, f, given, nil, true)
		})
	})
}

func TestCnfForCountsTheIns(t *testing.T) {
	d := newDrawer(71)
	for range 300 {
		c := d.circuit(6)
		if wiresOf(c) > 10 || len(c.Outs) == 0 {
			continue
		}
		c.Outs = c.Outs[:1+d.Intn(min(len(c.Outs), 2))]
		want, all := d.bits(len(c.Outs)), 0
		everyValues(c.Ins, func(ins []bool) {
			if outs, _ := impl.RunCircuit(c, ins); slices.Equal(outs, want) {
				all++
			}
		})
		f, _ := impl.CnfFor(c, want)
		if n, ok := impl.CountOf(f); n != all || !ok {
			t.Fatalf("CnfFor(%v, %v) is met by %d, %v, not %d", c, want, n, ok, all)
		}
	}
}

func TestCnfForAtTheLimits(t *testing.T) {
	for _, kind := range gateKinds {
		for _, count := range []int{299, 300, 301} {
			c := impl.Circuit{Ins: 16}
			for k := range count {
				g := impl.Gate{Kind: kind, A: k % 2}
				if kind != impl.GtBit {
					g.A = 15 + k
				}
				if kind != impl.GtBit && kind != impl.GtNot {
					g.B = k
				}
				c.Gates = append(c.Gates, g)
			}
			for k := range 16 {
				c.Outs = append(c.Outs, wiresOf(c)-1-k)
			}
			want := make([]bool, 16)
			want[3] = true
			if count > impl.MaxGates {
				checkNoCnf(t, "too many gates", c, want)
				continue
			}
			checkCnfFor(t, c, want, cnfWant(c, want))
		}
	}
}

func TestCnfForAtWrongArguments(t *testing.T) {
	for name, c := range badCircuits {
		checkNoCnf(t, name, c, nil)
		checkNoCnf(t, name, c, make([]bool, len(c.Outs)))
		checkNoCnf(t, name, c, make([]bool, 1))
	}
	for outs := range 17 {
		c := impl.Circuit{Ins: 2, Gates: noughts(2), Outs: make([]int, outs)}
		for _, length := range []int{0, 1, 2, 15, 16, 17, outs - 1, outs, outs + 1, 5000} {
			if length < 0 {
				continue
			}
			if length != outs {
				checkNoCnf(t, "wants of another length", c, make([]bool, length))
				continue
			}
			checkCnfFor(t, c, make([]bool, length), cnfWant(c, make([]bool, length)))
		}
	}
}

func checkSolveTerm(t *testing.T, wide, vars int, u []impl.Node, budget int, code int, state ...uint64) {
	t.Helper()
	if gotCode, gotState, ok := impl.SolveTerm(wide, vars, u, budget); gotCode != code || !slices.Equal(gotState, state) || !ok {
		t.Fatalf("SolveTerm(%d, %d, %v, %d): %d, %v, %v, not %d, %v", wide, vars, u, budget, gotCode, gotState, ok, code, state)
	}
}

func checkNoSolveTerm(t *testing.T, name string, wide, vars int, u []impl.Node, budget int) {
	t.Helper()
	if code, state, ok := impl.SolveTerm(wide, vars, u, budget); code != 0 || len(state) != 0 || ok {
		t.Errorf("%s: SolveTerm(%d, %d, %v, %d): %d, %v, %v", name, wide, vars, u, budget, code, state, ok)
	}
}

func TestSolveTermByHand(t *testing.T) {
	yes, no := nodes(impl.OpYes, 1), nodes(impl.OpYes, 0)
	checkSolveTerm(t, 2, 1, yes, 2, impl.SatYes, 0)
	checkSolveTerm(t, 2, 1, yes, 1, impl.SatOut)
	checkSolveTerm(t, 2, 1, yes, 0, impl.SatOut)
	checkSolveTerm(t, 4, 4, yes, 16, impl.SatYes, 0, 0, 0, 0)
	checkSolveTerm(t, 4, 4, yes, 15, impl.SatOut)
	checkSolveTerm(t, 4, 4, no, 0, impl.SatNo)
	checkSolveTerm(t, 1, 1, no, 300, impl.SatNo)
	is := func(n int) []impl.Node { return nodes(impl.OpVar, 0, impl.OpNum, n, impl.OpEq, 0) }
	for n := range 16 {
		checkSolveTerm(t, 4, 1, is(n), 0, impl.SatYes, uint64(n))
		checkSolveTerm(t, 4, 2, is(n), 4, impl.SatYes, uint64(n), 0)
		checkSolveTerm(t, 4, 2, is(n), 3, impl.SatOut)
	}
	self := nodes(impl.OpVar, 0, impl.OpVar, 0, impl.OpLess, 0)
	checkSolveTerm(t, 3, 1, self, 300, impl.SatNo)
	checkSolveTerm(t, 1, 2, nodes(impl.OpVar, 0, impl.OpVar, 1, impl.OpLess, 0), 0, impl.SatYes, 0, 1)
	checkSolveTerm(t, 1, 2, nodes(impl.OpVar, 0, impl.OpVar, 1, impl.OpLessS, 0), 0, impl.SatYes, 1, 0)
	// Both bits of the first word and the lower one of the second are tried to be not so ahead.
	checkSolveTerm(t, 2, 2, nodes(impl.OpVar, 0, impl.OpVar, 1, impl.OpLess, 0), 300, impl.SatYes, 0, 2)
}

// solveTermWant takes the chapters' words one behind the other.
func solveTermWant(wide, vars int, u []impl.Node, budget int) (int, []uint64) {
	c := laidWant(wide, vars, u)
	code, values, _ := solveWant(cnfWant(c, []bool{true}), budget)
	var state []uint64
	for k := 0; code == impl.SatYes && k < c.Ins; k += wide {
		word := uint64(0)
		for i := range wide {
			if values[k+i] {
				word += 1 << i
			}
		}
		state = append(state, word)
	}
	return code, state
}

func TestSolveTermOfDrawnConditions(t *testing.T) {
	count := map[int]int{}
	everyPlainTerm(72, 900, func(d drawer, wide, vars int, u []impl.Node) {
		kind, _ := impl.KindOf(wide, vars, u)
		if n, ok := impl.GateCount(wide, vars, u); kind != 2 || !ok || n > 120 {
			checkOddTerm(t, wide, vars, u)
			return
		}
		holds := false
		if wide*vars <= 8 {
			everyWordOf(wide, vars, func(state []uint64) { holds = holds || worth(wide, u, state) == 1 })
		}
		for _, budget := range []int{d.Intn(12), 3, impl.MaxBudget} {
			code, state := solveTermWant(wide, vars, u, budget)
			count[code]++
			checkSolveTerm(t, wide, vars, u, budget, code, state...)
			if code == impl.SatNo && holds {
				t.Fatalf("%v of wide %d holds somewhere", u, wide)
			}
			if n, ok := impl.ValueOf(wide, u, state); code == impl.SatYes && (n != 1 || !ok) {
				t.Fatalf("%v is %d, %v at %v", u, n, ok, state)
			}
		}
	})
	if count[impl.SatYes] < 100 || count[impl.SatNo] < 50 || count[impl.SatOut] < 50 {
		t.Error("too few of a sort are drawn", count)
	}
}

// checkOddTerm asks for the zero answer where no gates are laid, or where they carry a number.
func checkOddTerm(t *testing.T, wide, vars int, u []impl.Node) {
	t.Helper()
	kind, _ := impl.KindOf(wide, vars, u)
	_, ok := impl.GateCount(wide, vars, u)
	if kind != 2 || !ok {
		checkNoSolveTerm(t, "a number, or too many gates", wide, vars, u, impl.MaxBudget)
		return
	}
	code, state, ok := impl.SolveTerm(wide, vars, u, impl.MaxBudget)
	if n, _ := impl.ValueOf(wide, u, state); !ok || code == impl.SatYes && n != 1 || code != impl.SatYes && len(state) != 0 {
		t.Fatalf("SolveTerm(%d, %d, %v): %d, %v, %v", wide, vars, u, code, state, ok)
	}
}

func TestSolveTermAtWrongArguments(t *testing.T) {
	for _, op := range []int{impl.OpVar, impl.OpNum, impl.OpFlip, impl.OpAdd, impl.OpMul, impl.OpXor} {
		for wide := 1; wide <= impl.MaxLaid; wide++ {
			checkNoSolveTerm(t, "a number", wide, 2, opTerm(op), 300)
		}
	}
	for _, op := range roughOps {
		u := append(opTerm(op), nodes(impl.OpNum, 0, impl.OpEq, 0)...)
		checkNoSolveTerm(t, "not plain", 2, 2, u, 300)
		checkNoSolveTerm(t, "not plain, within", 2, 2, append(append(nodes(impl.OpYes, 1), u...), nodes(impl.OpEither, 0)...), 300)
	}
	yes := nodes(impl.OpYes, 1)
	for _, budget := range []int{-1, -300, 301, 302, math.MinInt, math.MaxInt} {
		checkNoSolveTerm(t, "wrong budget", 1, 1, yes, budget)
		checkNoSolveTerm(t, "wrong budget", 1, 1, nodes(impl.OpYes, 0), budget)
	}
	for _, wide := range badLaidWides {
		checkNoSolveTerm(t, "wrong wide", wide, 1, yes, 300)
	}
	for _, vars := range badVars {
		checkNoSolveTerm(t, "wrong vars", 2, vars, yes, 300)
	}
	for name, u := range notGood {
		checkNoSolveTerm(t, name, 4, 2, u, 300)
	}
}

func TestSolveTermAtTheGateLimit(t *testing.T) {
	for wide, u := range map[int][]impl.Node{4: heap(2, 3, 0, noes(16)...), 3: heap(4, 3, 0, noes(2)...), 2: heap(10, 1, 0, noes(2)...)} {
		for vars := 1; vars <= impl.MaxVars; vars++ {
			for _, budget := range []int{0, 1, impl.MaxBudget} {
				code, state := solveTermWant(wide, vars, u, budget)
				checkSolveTerm(t, wide, vars, u, budget, code, state...)
			}
			checkNoSolveTerm(t, "a gate too many", wide, vars, append(slices.Clone(u), impl.Node{Op: impl.OpNo}), 300)
		}
	}
}

// satArguments are all that the calls of the chapter take, with more memory behind each length.
type satArguments struct {
	c      impl.Cnf
	values []bool
	given  []int
	gates  impl.Circuit
	want   []bool
	wide   int
	vars   int
	term   []impl.Node
	a, b   []int
	name   int
}

func (d drawer) satArguments() satArguments {
	names := 1 + d.Intn(9)
	s := satArguments{c: d.cnf(names, d.Intn(3*names)), values: d.bits(names), given: d.given(names), gates: d.circuit(12)}
	s.want = d.bits(len(s.gates.Outs))
	s.wide, s.vars, s.name = 1+d.Intn(impl.MaxLaid), 1+d.Intn(impl.MaxVars), 1+d.Intn(4)
	s.term = d.plainTerm(s.wide, s.vars, 2, 1+d.Intn(10))
	s.a, s.b = append(d.clause(4, d.Intn(7)), s.name), append(d.clause(4, d.Intn(7)), -s.name)
	return s
}

// spoiledLiterals puts one literal into a list, at times, that may not stand there.
func (d drawer) spoiledLiterals(list []int) []int {
	if len(list) == 0 || d.Intn(4) > 0 {
		return list
	}
	list = slices.Clone(list)
	list[d.Intn(len(list))] = d.of([]int{0, 11, -11, 401, math.MinInt, list[0], -list[0]})
	return list
}

func (s satArguments) guarded() satArguments {
	var clauses [][]int
	for _, clause := range s.c.Clauses {
		clauses = append(clauses, guarded(clause, -1, 1, 0, 500))
	}
	s.c.Clauses = guarded(clauses, nil, []int{0}, []int{1}, []int{-1})
	s.values, s.given = guarded(s.values, true, false), guarded(s.given, 1, 1, 0)
	s.gates.Gates = guarded(s.gates.Gates, gates(9, 9, 9, impl.GtBit, 0, 0)...)
	s.gates.Outs, s.want = guarded(s.gates.Outs, 0, -5, 400), guarded(s.want, true, true)
	s.term = guarded(s.term, nodes(impl.OpNo, 0, 99, 99, impl.OpYes, 1)...)
	s.a, s.b = guarded(s.a, s.name, 0, 7, 500), guarded(s.b, -s.name, 0, 8, -500)
	return s
}

// all tells what lies in the arguments' memory, behind each length too.
func (s satArguments) all() []any {
	var clauses [][]int
	for _, clause := range s.c.Clauses[:cap(s.c.Clauses)] {
		clauses = append(clauses, slices.Clone(clause[:cap(clause)]))
	}
	return []any{
		s.c.Names, clauses, slices.Clone(s.values[:cap(s.values)]), slices.Clone(s.given[:cap(s.given)]),
		spilled(s.gates), slices.Clone(s.want[:cap(s.want)]), slices.Clone(s.term[:cap(s.term)]),
		slices.Clone(s.a[:cap(s.a)]), slices.Clone(s.b[:cap(s.b)]),
	}
}

func (s satArguments) spans() [][2]uintptr {
	out := [][2]uintptr{
		span(s.c.Clauses), span(s.values), span(s.given), span(s.gates.Gates), span(s.gates.Outs),
		span(s.want), span(s.term), span(s.a), span(s.b),
	}
	for _, clause := range s.c.Clauses {
		out = append(out, span(clause))
	}
	return out
}

// answers makes each call of the chapter and writes what it answers over; told is what was answered ahead of that.
func (s satArguments) answers(t *testing.T) (told []any) {
	tell := func(answers ...any) { told = append(told, answers...) }
	apart := func(memory ...[2]uintptr) { apart(t, append(memory, s.spans()...)) }
	met, ok := impl.Meets(s.c, s.values)
	tell(impl.GoodCnf(s.c), met, ok)
	l, bad, ok := impl.Forced(s.c, s.given)
	tell(append([]int{}, l...), bad, ok)
	apart(ruined(l, -77))
	code, values, made, ok := impl.Solve(s.c, 5)
	tell(code, append([]bool{}, values...), made, ok)
	apart(ruined(values, true))
	f, ok := impl.CnfFor(s.gates, s.want)
	tell(f.Names, ok)
	memory := [][2]uintptr{span(f.Clauses)}
	for _, clause := range f.Clauses {
		tell(append([]int{}, clause...))
		memory = append(memory, ruined(clause, -77))
	}
	apart(memory...)
	ruined(f.Clauses, []int{-77})
	code, state, ok := impl.SolveTerm(s.wide, s.vars, s.term, 9)
	tell(code, append([]uint64{}, state...), ok)
	apart(ruined(state, 77))
	n, ok := impl.CountOf(s.c)
	tell(n, ok)
	l, ok = impl.ResolveOn(s.a, s.b, s.name)
	tell(append([]int{}, l...), ok)
	apart(ruined(l, -77))
	return told
}

func TestClausesWriteIntoNoArgument(t *testing.T) {
	d := newDrawer(73)
	for range 500 {
		plain := d.satArguments()
		plain.given, plain.a, plain.b = d.spoiledLiterals(plain.given), d.spoiledLiterals(plain.a), d.spoiledLiterals(plain.b)
		if len(plain.c.Clauses) > 0 {
			plain.c.Clauses[0] = d.spoiledLiterals(plain.c.Clauses[0])
		}
		checkUnwritten(t, plain, plain.guarded())
	}
}

// Lists of one argument may share their memory.
func TestClausesThatShareMemory(t *testing.T) {
	row := []int{1, -2, 3, 2, -3, 1, -1, 2}
	shared, own := impl.Cnf{Names: 3}, impl.Cnf{Names: 3}
	for k := range 7 {
		shared.Clauses = append(shared.Clauses, row[k:k+2])
		own.Clauses = append(own.Clauses, slices.Clone(row[k:k+2]))
	}
	before := slices.Clone(row)
	for budget := range 5 {
		code, values, made, _ := impl.Solve(own, budget)
		checkSolve(t, shared, budget, code, values, made)
	}
	want, bad := forcedWant(own, row[1:3])
	checkForced(t, shared, row[1:3], want, bad)
	if l, ok := impl.ResolveOn(row[1:4], row[1:4], 2); !ok || !slices.Equal(l, []int{-2, 2, 3}) {
		t.Errorf("a clause resolved with itself: %v, %v", l, ok)
	}
	if !slices.Equal(row, before) {
		t.Errorf("written into: %v", row)
	}
}

// What lies behind a list's length would make these good, or not.
func TestClausesEndAtTheirLength(t *testing.T) {
	row := []int{1, -2, 2, 0, 9}
	all := [][]int{row[:2], row[1:3], {0}}
	for count, want := range []bool{true, true, true, false} {
		checkGood(t, "clauses", impl.Cnf{Names: 2, Clauses: all[:count]}, want)
	}
	for length, want := range []bool{true, true, true, true, false, false} {
		checkGood(t, "literals", cnf(2, row[:length]), want)
	}
	checkForced(t, cnf(2, row[:1]), row[1:2], []int{1, -2}, false)
	if l, ok := impl.ResolveOn(row[2:3], row[1:2], 2); !ok || len(l) != 0 {
		t.Errorf("ResolveOn: %v, %v", l, ok)
	}
	checkUnresolved(t, row[:2], row[:2], 2)
}
