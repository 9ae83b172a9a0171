package tests

import (
	"math"
	"slices"
	"testing"

	"loop.example/g00649/impl"
)

func checkForced(t *testing.T, c impl.Cnf, given []int, want []int, wantBad bool) {
	t.Helper()
	if l, bad, ok := impl.Forced(c, given); !slices.Equal(l, want) || bad != wantBad || !ok {
		t.Fatalf("Forced(%v, %v): %v, %v, %v, not %v, %v", c, given, l, bad, ok, want, wantBad)
	}
}

// everyOrder asks for the same answer in many orders of the clauses, of their literals and of what is given.
func everyOrder(t *testing.T, d drawer, c impl.Cnf, given []int, want []int, wantBad bool) {
	t.Helper()
	checkForced(t, c, given, want, wantBad)
	for range 12 {
		given = slices.Clone(given)
		d.Shuffle(len(given), func(i, j int) { given[i], given[j] = given[j], given[i] })
		checkForced(t, d.shuffled(c), given, want, wantBad)
	}
}

var forcedCases = []struct {
	c     impl.Cnf
	given []int
	want  []int
	bad   bool
}{
	{cnf(0), nil, nil, false},
	{cnf(0, nil), nil, nil, true},
	{cnf(3), nil, nil, false},
	{cnf(3), []int{3, -1}, []int{-1, 3}, false},
	{cnf(3, nil), []int{3, -1}, nil, true},
	{cnf(3, []int{2}), nil, []int{2}, false},
	{cnf(3, []int{-2}, []int{3}), nil, []int{-2, 3}, false},
	{cnf(3, []int{-2}), []int{3}, []int{-2, 3}, false},
	{cnf(2, []int{1}, []int{-1}), nil, nil, true},
	{cnf(2, []int{1}), []int{1}, []int{1}, false},
	{cnf(2, []int{1}), []int{-1}, nil, true},
	{cnf(2, []int{1, 2}), nil, nil, false},
	{cnf(2, []int{1, 2}), []int{1}, []int{1}, false},
	{cnf(2, []int{1, 2}), []int{-1}, []int{-1, 2}, false},
	{cnf(2, []int{1, 2}), []int{-2}, []int{1, -2}, false},
	{cnf(2, []int{1, 2}), []int{-2, -1}, nil, true},
	{cnf(2, []int{1, 2}, []int{1, -2}), nil, nil, false},
	{cnf(2, []int{1, 2}, []int{1, -2}), []int{-1}, nil, true},
	{cnf(1, []int{1, 1}), nil, []int{1}, false},
	{cnf(1, []int{-1, -1, -1, -1, -1, -1, -1, -1}), nil, []int{-1}, false},
	{cnf(1, []int{-1, -1, -1}), []int{1}, nil, true},
	{cnf(2, []int{1, 2, 1, 2}), nil, nil, false},
	{cnf(2, []int{1, 2, 1, 2}), []int{-2}, []int{1, -2}, false},
	{cnf(2, []int{2, 1, 1, 2}), []int{-1}, []int{-1, 2}, false},
	{cnf(2, []int{1, -1}), nil, nil, false},
	{cnf(2, []int{1, -1}), []int{1}, []int{1}, false},
	{cnf(2, []int{1, -1}), []int{-1}, []int{-1}, false},
	{cnf(2, []int{1, -1, 2}), []int{-2}, []int{-2}, false},
	{cnf(2, []int{1, -1, 2}), []int{1}, []int{1}, false},
	{cnf(4, []int{-3, 4}, []int{-2, 3}, []int{-1, 2}), []int{1}, []int{1, 2, 3, 4}, false},
	{cnf(4, []int{-3, 4}, []int{-2, 3}, []int{-1, 2}), []int{-4}, []int{-1, -2, -3, -4}, false},
	{cnf(4, []int{-3, 4}, []int{-2, 3}, []int{-1, 2}), []int{3, -1}, []int{-1, 3, 4}, false},
	{cnf(4, []int{-3, 4}, []int{-2, 3}, []int{-1, 2}), []int{-4, 1}, nil, true},
	{cnf(4, []int{-3, 4}, []int{-2, 3}, []int{-1, 2}, []int{-4, -1}), []int{1}, nil, true},
	{cnf(5, []int{1, 2, 3}, []int{1, 2, -3}, []int{4}, []int{-4, 5}), nil, []int{4, 5}, false},
	{cnf(5, []int{1, 2, 3}, []int{1, 2, -3}, []int{4}, []int{-4, -2}), nil, []int{-2, 4}, false},
	{cnf(3, []int{1}, []int{-1, 2}, []int{-2, -1, 3}, []int{-3, -2, -1}), nil, nil, true},
	{cnf(9, []int{1, 2, 3, 4, 5, 6, 7, 8}), []int{-1, -2, -3, -4, -5, -6, -7}, []int{-1, -2, -3, -4, -5, -6, -7, 8}, false},
	{cnf(9, []int{1, 2, 3, 4, 5, 6, 7, 8}), []int{-1, -2, -3, -4, -5, -6}, []int{-1, -2, -3, -4, -5, -6}, false},
}

func TestForcedByHand(t *testing.T) {
	d := newDrawer(63)
	for _, one := range forcedCases {
		everyOrder(t, d, one.c, one.given, one.want, one.bad)
		if want, bad := forcedWant(one.c, one.given); !slices.Equal(want, one.want) || bad != one.bad {
			t.Errorf("the tests' own forcing of %v by %v differs: %v, %v", one.c, one.given, want, bad)
		}
	}
}

func TestForcedAtWrongGivens(t *testing.T) {
	for _, c := range []impl.Cnf{cnf(3), cnf(3, nil), cnf(3, []int{1}, []int{-1}), cnf(3, []int{1, 2}, []int{-2, 3})} {
		for _, given := range [][]int{
			{1, 1}, {-1, -1}, {1, -1}, {-1, 1}, {2, 1, 2}, {3, -2, -3}, {1, 2, 3, 1}, {1, 2, 3, -2},
			{0}, {1, 0}, {0, 1}, {4}, {-4}, {2, 4}, {-4, 2}, {401}, {math.MinInt}, {1, math.MaxInt}, {math.MinInt + 1, 1},
			make([]int, 5000), slices.Repeat([]int{2}, 5000),
		} {
			if l, bad, ok := impl.Forced(c, given); len(l) != 0 || bad || ok {
				t.Errorf("Forced(%v, %v): %v, %v, %v", c, given, l, bad, ok)
			}
		}
	}
	if l, bad, ok := impl.Forced(cnf(0), []int{1}); len(l) != 0 || bad || ok {
		t.Errorf("given where there is no name: %v, %v, %v", l, bad, ok)
	}
}

// What is forced is so in all values that meet the clauses and what is given; where it is contrary there are none.
func TestForcedOfDrawnClauses(t *testing.T) {
	count := map[bool]int{}
	everyCnf(64, 1100, func(d drawer, c impl.Cnf) {
		given := d.given(c.Names)
		want, wantBad := forcedWant(c, given)
		count[wantBad]++
		everyOrder(t, d, c, given, want, wantBad)
		more := slices.Clone(c.Clauses)
		for _, l := range given {
			more = append(more, []int{l})
		}
		all := countWant(impl.Cnf{Names: c.Names, Clauses: more})
		if wantBad && all != 0 {
			t.Fatalf("%v with %v is contrary, but can be met", c, given)
		}
		for _, l := range want {
			more = append(more, []int{l})
		}
		if n := countWant(impl.Cnf{Names: c.Names, Clauses: more}); n != all {
			t.Fatalf("%v with %v: forced %v is so in %d of %d", c, given, want, n, all)
		}
	})
	if count[true] < 100 || count[false] < 100 {
		t.Error("too few of a sort are drawn", count)
	}
}

// chain says that each name is so where the one ahead is, the last ones first.
func chain(names int) impl.Cnf {
	c := impl.Cnf{Names: names}
	for k := names - 1; k >= 1; k-- {
		c.Clauses = append(c.Clauses, []int{-k, k + 1})
	}
	return c
}

func signs(names int, sign int) []int {
	var out []int
	for k := 1; k <= names; k++ {
		out = append(out, sign*k)
	}
	return out
}

func TestForcedAtTheLimits(t *testing.T) {
	d := newDrawer(65)
	long := chain(impl.MaxNames)
	everyOrder(t, d, long, nil, nil, false)
	everyOrder(t, d, long, []int{1}, signs(400, 1), false)
	everyOrder(t, d, long, []int{-400}, signs(400, -1), false)
	everyOrder(t, d, long, []int{200, -199}, append(signs(199, -1), signs(400, 1)[199:]...), false)
	everyOrder(t, d, long, []int{1, -400}, nil, true)
	everyOrder(t, d, long, signs(400, 1), signs(400, 1), false)
	for len(long.Clauses) < impl.MaxClauses-1 {
		long.Clauses = append(long.Clauses, []int{1, 2, -1, 3, 4, -400, 400, 7})
	}
	long.Clauses = append(long.Clauses, []int{1, 1, 1, 1, 1, 1, 1, 1})
	everyOrder(t, d, long, nil, signs(400, 1), false)
	long.Clauses[700] = []int{-400, -399}
	everyOrder(t, d, long, nil, nil, true)
}

func checkUnsolved(t *testing.T, name string, c impl.Cnf, budget int) {
	t.Helper()
	if code, values, made, ok := impl.Solve(c, budget); code != 0 || len(values) != 0 || made != 0 || ok {
		t.Errorf("%s: Solve with %d: %d, %v, %d, %v", name, budget, code, values, made, ok)
	}
}

func checkSolve(t *testing.T, c impl.Cnf, budget int, code int, values []bool, made int) {
	t.Helper()
	gotCode, gotValues, gotMade, ok := impl.Solve(c, budget)
	if gotCode != code || !slices.Equal(gotValues, values) || gotMade != made || !ok {
		t.Fatalf("Solve(%v, %d): %d, %v, %d, %v, not %d, %v, %d", c, budget, gotCode, gotValues, gotMade, ok, code, values, made)
	}
}

// o is not so, and x is.
const o, x = false, true

// solveCases tell by hand how many decisions are enough, and what is found with them.
var solveCases = []struct {
	c      impl.Cnf
	code   int
	values []bool
	made   int
}{
	{cnf(0), impl.SatYes, nil, 0},
	{cnf(0, nil), impl.SatNo, nil, 0},
	{cnf(400, nil), impl.SatNo, nil, 0},
	{cnf(1, []int{1}), impl.SatYes, []bool{x}, 0},
	{cnf(1, []int{-1}), impl.SatYes, []bool{o}, 0},
	{cnf(1, []int{1}, []int{-1}), impl.SatNo, nil, 0},
	{cnf(1), impl.SatYes, []bool{o}, 1},
	{cnf(1, []int{1, -1}), impl.SatYes, []bool{o}, 1},
	{cnf(3), impl.SatYes, []bool{o, o, o}, 3},
	{cnf(3, []int{3}), impl.SatYes, []bool{o, o, x}, 2},
	{cnf(3, []int{1}), impl.SatYes, []bool{x, o, o}, 2},
	{cnf(3, []int{2, 2}), impl.SatYes, []bool{o, x, o}, 2},
	{cnf(2, []int{1, 2}), impl.SatYes, []bool{o, x}, 1},
	{cnf(2, []int{1, -2}), impl.SatYes, []bool{o, o}, 1},
	{cnf(2, []int{-1, -2}), impl.SatYes, []bool{o, o}, 2},
	// The name 1 fails to be not so; that it is so costs nothing, but the name 2 is decided then.
	{cnf(2, []int{1, 2}, []int{1, -2}), impl.SatYes, []bool{x, o}, 2},
	{cnf(2, []int{1, 2}, []int{1, -2}, []int{-1, 2}), impl.SatYes, []bool{x, x}, 1},
	{cnf(2, []int{1, 2}, []int{1, -2}, []int{-1, 2}, []int{-1, -2}), impl.SatNo, nil, 1},
	{cnf(3, []int{1, 2}, []int{1, -2}, []int{-1, 3}, []int{-1, -3}), impl.SatNo, nil, 1},
	// The name 1 makes no difference: 2 is decided under both of its values.
	{cnf(3, []int{2, 3}, []int{2, -3}, []int{-2, 3}, []int{-2, -3}), impl.SatNo, nil, 3},
	{cnf(3, []int{3, 2}, []int{-3, 2}), impl.SatYes, []bool{o, x, o}, 3},
	// Under 1 not so both values of 2 fail; then 1 is so, and 2 is decided once more.
	{cnf(3, []int{1, 2, 3}, []int{1, 2, -3}, []int{1, -2, 3}, []int{1, -2, -3}), impl.SatYes, []bool{x, o, o}, 4},
	{cnf(4, []int{1, 2, 3}, []int{1, 2, -3}, []int{1, -2, 3}, []int{1, -2, -3}, []int{-1, 2, 4}, []int{-1, 2, -4}, []int{-1, -2, 4}, []int{-1, -2, -4}), impl.SatNo, nil, 3},
	{cnf(4, []int{-1, -2}, []int{2, 3}, []int{-3, 4}), impl.SatYes, []bool{o, o, x, x}, 2},
	{cnf(4, []int{1, 2}, []int{3, 4}), impl.SatYes, []bool{o, x, o, x}, 2},
}

// With less than is enough the decisions are all that the budget gives.
func checkBudgets(t *testing.T, c impl.Cnf, code int, values []bool, made int) {
	t.Helper()
	for budget := range made {
		checkSolve(t, c, budget, impl.SatOut, nil, budget)
	}
	for _, budget := range []int{made, made + 1, made + 7, impl.MaxBudget - 1, impl.MaxBudget} {
		if budget >= made && budget <= impl.MaxBudget {
			checkSolve(t, c, budget, code, values, made)
		}
	}
}

func TestSolveByHand(t *testing.T) {
	for _, one := range solveCases {
		checkBudgets(t, one.c, one.code, one.values, one.made)
		code, values, made := solveWant(one.c, impl.MaxBudget)
		if code != one.code || !slices.Equal(values, one.values) || made != one.made {
			t.Errorf("the tests' own solving of %v differs: %d, %v, %d", one.c, code, values, made)
		}
	}
}

func TestSolveAtWrongBudgets(t *testing.T) {
	for _, c := range []impl.Cnf{cnf(0), cnf(0, nil), cnf(1, []int{1}), cnf(2, []int{1, 2}, []int{-1, 2})} {
		for _, budget := range []int{-1, -2, -300, 301, 302, 5000, math.MinInt, math.MaxInt} {
			checkUnsolved(t, "wrong budget", c, budget)
		}
	}
}

// Promise 6, and each decision.
func TestSolveOfDrawnClauses(t *testing.T) {
	count := map[int]int{}
	everyCnf(66, 1400, func(d drawer, c impl.Cnf) {
		code, values, made, ok := impl.Solve(c, impl.MaxBudget)
		all, known := impl.CountOf(c)
		if !ok || !known || all != countWant(c) {
			t.Fatalf("Solve(%v): %v, counted %d, %v", c, ok, all, known)
		}
		count[code]++
		met, _ := impl.Meets(c, values)
		switch {
		case code == impl.SatYes && met && metWant(c, values):
		case code == impl.SatNo && all == 0 && len(values) == 0:
		default:
			t.Fatalf("Solve(%v): %d, %v where %d meet them", c, code, values, all)
		}
		wantCode, wantValues, wantMade := solveWant(c, impl.MaxBudget)
		if code != wantCode || !slices.Equal(values, wantValues) || made != wantMade {
			t.Fatalf("Solve(%v): %d, %v, %d, not %d, %v, %d", c, code, values, made, wantCode, wantValues, wantMade)
		}
		checkBudgets(t, c, code, values, made)
	})
	if count[impl.SatYes] < 200 || count[impl.SatNo] < 200 {
		t.Error("too few of a sort are drawn", count)
	}
}

// The values found are the first ones by the order in which names are tried, not so ahead of so.
func TestSolveFindsTheFirstValues(t *testing.T) {
	everyCnf(67, 400, func(d drawer, c impl.Cnf) {
		var first []bool
		everyValues(c.Names, func(values []bool) {
			slices.Reverse(values)
			if first == nil && metWant(c, values) {
				first = values
			}
		})
		if _, values, _, _ := impl.Solve(c, impl.MaxBudget); !slices.Equal(values, first) {
			t.Fatalf("Solve(%v): %v, not %v", c, values, first)
		}
	})
}

func TestSolveOfHardOnes(t *testing.T) {
	d := newDrawer(68)
	some := map[int]int{}
	for k := range 60 {
		names := 12 + k
		c := impl.Cnf{Names: names}
		for range 4*names + names/4 {
			c.Clauses = append(c.Clauses, d.clause(names, 3))
		}
		for _, budget := range []int{0, 1, 5, 20, 40} {
			code, values, made := solveWant(c, budget)
			checkSolve(t, c, budget, code, values, made)
			some[code]++
		}
	}
	if some[impl.SatYes] < 10 || some[impl.SatNo] < 10 || some[impl.SatOut] < 10 {
		t.Error("too few of a sort are drawn", some)
	}
}

// holes says that each of some birds sits in one of fewer holes, and no two in one.
func holes(birds int) impl.Cnf {
	place := func(bird, hole int) int { return bird*(birds-1) + hole + 1 }
	c := impl.Cnf{Names: birds * (birds - 1)}
	for bird := range birds {
		var clause []int
		for hole := range birds - 1 {
			clause = append(clause, place(bird, hole))
			for other := range bird {
				c.Clauses = append(c.Clauses, []int{-place(bird, hole), -place(other, hole)})
			}
		}
		c.Clauses = append(c.Clauses, clause)
	}
	return c
}

func TestSolveOfTooFewHoles(t *testing.T) {
	for birds := 2; birds <= 9; birds++ {
		c := holes(birds)
		code, values, made := solveWant(c, impl.MaxBudget)
		if birds <= 4 && code != impl.SatNo || birds == 9 && code != impl.SatOut {
			t.Errorf("%d birds: %d", birds, code)
		}
		checkSolve(t, c, impl.MaxBudget, code, values, made)
	}
}

func TestSolveAtTheLimits(t *testing.T) {
	for _, names := range []int{299, 300} {
		checkBudgets(t, cnf(names), impl.SatYes, make([]bool, names), names)
	}
	for _, names := range []int{301, 302, 400} {
		for _, budget := range []int{0, 1, 299, 300} {
			checkSolve(t, cnf(names), budget, impl.SatOut, nil, budget)
		}
	}
	c := cnf(400)
	for k := 1; k <= 100; k++ {
		c.Clauses = append(c.Clauses, []int{k, k + 300}, []int{4 * k})
	}
	code, values, made := solveWant(c, impl.MaxBudget)
	if code != impl.SatYes || made != 225 {
		t.Fatalf("the tests' own solving: %d, %d", code, made)
	}
	checkBudgets(t, c, code, values, made)
	checkSolve(t, chain(400), 300, impl.SatOut, nil, 300)
	back := chain(400)
	for _, clause := range back.Clauses {
		clause[0], clause[1] = -clause[0], -clause[1]
	}
	checkBudgets(t, back, impl.SatYes, make([]bool, 400), 1)
}

// So many clauses as there may be, in which what is tried fails late, and each time anew.
func TestSolveOfAllClauses(t *testing.T) {
	d := newDrawer(69)
	for range 3 {
		c := impl.Cnf{Names: impl.MaxNames}
		for range impl.MaxClauses {
			c.Clauses = append(c.Clauses, d.clause(impl.MaxNames, 3))
		}
		code, values, made := solveWant(c, 60)
		checkSolve(t, c, 60, code, values, made)
		code, values, made, ok := impl.Solve(c, impl.MaxBudget)
		if !ok || code == impl.SatYes && !metWant(c, values) || code == impl.SatOut && made != impl.MaxBudget {
			t.Errorf("%d, %v, %d, %v", code, values, made, ok)
		}
	}
	long := chain(250)
	for k := range 12 {
		for _, a := range []int{251 + 2*k, -251 - 2*k} {
			long.Clauses = append(long.Clauses, []int{-250, a, 252 + 2*k}, []int{-250, a, -252 - 2*k})
		}
	}
	long.Names = 274
	code, values, made := solveWant(long, 260)
	checkSolve(t, long, 260, code, values, made)
}
