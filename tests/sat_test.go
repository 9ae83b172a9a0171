package tests

import (
	"math"
	"slices"
	"testing"

	"loop.example/g00649/impl"
)

// cnf writes clauses short.
func cnf(names int, clauses ...[]int) impl.Cnf { return impl.Cnf{Names: names, Clauses: clauses} }

func nameIn(literal int) int {
	if literal < 0 {
		return -literal
	}
	return literal
}

func (d drawer) literal(names int) int {
	return (1 + d.Intn(names)) * d.of([]int{-1, 1})
}

// clause draws literals of which some may stand twice, and some contrary to others.
func (d drawer) clause(names int, size int) []int {
	var out []int
	for range size {
		out = append(out, d.literal(names))
	}
	return out
}

// cnf draws good clauses, of which few are short: some can be met, and some can't.
func (d drawer) cnf(names int, count int) impl.Cnf {
	c := impl.Cnf{Names: names}
	for range count {
		size := d.of([]int{1, 2, 2, 2, 3, 3, 3, 3, 3, 4, 8})
		switch {
		case d.Intn(100) == 0:
			size = 0
		case names == 0:
			continue
		}
		c.Clauses = append(c.Clauses, d.clause(names, size))
	}
	return c
}

func everyCnf(seed int64, count int, f func(d drawer, c impl.Cnf)) {
	d := newDrawer(seed)
	for k := range count {
		names := k % 11
		f(d, d.cnf(names, d.Intn(4*names+4)))
	}
}

// given draws literals, no two of one name.
func (d drawer) given(names int) []int {
	var out []int
	for _, k := range d.Perm(names)[:d.Intn(min(names, 3)+1)] {
		out = append(out, (k+1)*d.of([]int{-1, 1}))
	}
	return out
}

// shuffled has the same clauses with the same literals in another order.
func (d drawer) shuffled(c impl.Cnf) impl.Cnf {
	out := impl.Cnf{Names: c.Names}
	for _, k := range d.Perm(len(c.Clauses)) {
		clause := slices.Clone(c.Clauses[k])
		d.Shuffle(len(clause), func(i, j int) { clause[i], clause[j] = clause[j], clause[i] })
		out.Clauses = append(out.Clauses, clause)
	}
	return out
}

// metWant asks whether each clause has a literal of the values' list.
func metWant(c impl.Cnf, values []bool) bool {
	var so []int
	for k, is := range values {
		if is {
			so = append(so, k+1)
		} else {
			so = append(so, -k-1)
		}
	}
	for _, clause := range c.Clauses {
		if !slices.ContainsFunc(clause, func(l int) bool { return slices.Contains(so, l) }) {
			return false
		}
	}
	return true
}

// everyValues goes through all lists of values.
func everyValues(names int, f func(values []bool)) {
	for n := range 1 << names {
		values := make([]bool, names)
		for k := range values {
			values[k] = n>>k&1 == 1
		}
		f(values)
	}
}

func countWant(c impl.Cnf) int {
	count := 0
	everyValues(c.Names, func(values []bool) {
		if metWant(c, values) {
			count++
		}
	})
	return count
}

// openOf are the literals of a clause that are not contrary, alike ones once; met where one is so.
func openOf(clause []int, so map[int]bool) (open []int, met bool) {
	for _, l := range clause {
		met = met || so[l]
		if !so[-l] && !slices.Contains(open, l) {
			open = append(open, l)
		}
	}
	return open, met
}

// forcedWant goes round all clauses until a round brings nothing new.
func forcedWant(c impl.Cnf, given []int) ([]int, bool) {
	so := map[int]bool{}
	for _, l := range given {
		so[l] = true
	}
	for before := -1; before != len(so); {
		before = len(so)
		for _, clause := range c.Clauses {
			open, met := openOf(clause, so)
			switch {
			case met:
			case len(open) == 0:
				return nil, true
			case len(open) == 1:
				so[open[0]] = true
			}
		}
	}
	var out []int
	for name := 1; name <= c.Names; name++ {
		for _, l := range []int{-name, name} {
			if so[l] {
				out = append(out, l)
			}
		}
	}
	return out, false
}

// trying tries as the document tells it, each time from what is given alone.
type trying struct {
	c      impl.Cnf
	left   int
	made   int
	values []bool
}

func (w *trying) from(given []int) int {
	so, bad := forcedWant(w.c, given)
	if bad {
		return impl.SatNo
	}
	if len(so) == w.c.Names {
		for _, l := range so {
			w.values = append(w.values, l > 0)
		}
		return impl.SatYes
	}
	name := 1
	for name <= len(so) && nameIn(so[name-1]) == name {
		name++
	}
	if w.left == 0 {
		return impl.SatOut
	}
	w.left, w.made = w.left-1, w.made+1
	code := w.from(append(slices.Clone(given), -name))
	if code == impl.SatNo {
		code = w.from(append(slices.Clone(given), name))
	}
	return code
}

func solveWant(c impl.Cnf, budget int) (int, []bool, int) {
	w := &trying{c: c, left: budget}
	code := w.from(nil)
	return code, w.values, w.made
}

func TestSatConstants(t *testing.T) {
	if impl.MaxNames != 400 || impl.MaxClauses != 1400 || impl.MaxBudget != 300 {
		t.Error("limits", impl.MaxNames, impl.MaxClauses, impl.MaxBudget)
	}
	if impl.SatYes != 1 || impl.SatNo != 2 || impl.SatOut != 3 {
		t.Error("codes", impl.SatYes, impl.SatNo, impl.SatOut)
	}
}

func checkGood(t *testing.T, name string, c impl.Cnf, want bool) {
	t.Helper()
	if impl.GoodCnf(c) != want {
		t.Errorf("%s: good %v", name, !want)
	}
	if c.Names < 0 || c.Names > 5000 {
		return
	}
	is, ok := impl.Meets(c, make([]bool, c.Names))
	if ok != want || !want && is || want && is != metWant(c, make([]bool, c.Names)) {
		t.Errorf("%s: meets %v, %v", name, is, ok)
	}
}

func TestGoodCnfByItsRules(t *testing.T) {
	checkGood(t, "nothing", impl.Cnf{}, true)
	checkGood(t, "an empty clause of no names", cnf(0, nil), true)
	checkGood(t, "a literal of no names", cnf(0, []int{1}), false)
	for names, want := range map[int]bool{-1: false, 0: true, 1: true, 399: true, 400: true, 401: false, 402: false, 4000: false, math.MinInt: false, math.MaxInt: false} {
		checkGood(t, "names", cnf(names), want)
		checkGood(t, "names with an empty clause", cnf(names, []int{}), want)
	}
	for count, want := range map[int]bool{0: true, 1: true, 1399: true, 1400: true, 1401: false, 5000: false} {
		checkGood(t, "clauses", cnf(1, slices.Repeat([][]int{{-1}}, count)...), want)
		checkGood(t, "empty clauses", cnf(0, make([][]int, count)...), want)
	}
	for size, want := range map[int]bool{0: true, 1: true, 7: true, 8: true, 9: false, 10: false, 5000: false} {
		checkGood(t, "literals", cnf(2, []int{1}, slices.Repeat([]int{-2}, size), []int{2}), want)
		checkGood(t, "literals at the end", cnf(400, []int{1}, slices.Repeat([]int{400}, size)), want)
	}
	all := slices.Repeat([][]int{{400, -400, 1, -1, 2, -399, 399, 400}}, 1400)
	checkGood(t, "all limits at once", cnf(400, all...), true)
}

func TestGoodCnfByItsLiterals(t *testing.T) {
	for _, names := range []int{1, 2, 5, 399, 400} {
		for literal, want := range map[int]bool{
			0: false, 1: true, -1: true, names: true, -names: true, names + 1: false, -names - 1: false,
			401: false, -401: false, math.MinInt: false, math.MinInt + 1: false, math.MaxInt: false,
		} {
			for place := range 9 {
				clauses := [][]int{{1, -1, 1}, {-1, names, -names}, {names, 1, 1}}
				clauses[place/3][place%3] = literal
				checkGood(t, "literal", cnf(names, clauses...), want)
			}
		}
	}
}

func TestMeetsByHand(t *testing.T) {
	for _, row := range []struct {
		c      impl.Cnf
		values []bool
		want   bool
	}{
		{cnf(0), nil, true},
		{cnf(0), []bool{}, true},
		{cnf(0, nil), nil, false},
		{cnf(1), []bool{o}, true},
		{cnf(1, []int{1}), []bool{o}, false},
		{cnf(1, []int{1}), []bool{x}, true},
		{cnf(1, []int{-1}), []bool{o}, true},
		{cnf(1, []int{-1}), []bool{x}, false},
		{cnf(1, []int{1, -1}), []bool{x}, true},
		{cnf(1, []int{1, -1}), []bool{o}, true},
		{cnf(2, []int{1, 2}, []int{-1, 2}), []bool{x, o}, false},
		{cnf(2, []int{1, 2}, []int{-1, 2}), []bool{o, x}, true},
		{cnf(3, []int{1, 2, 3}, []int{-1, -2, -3}), []bool{o, o, o}, false},
		{cnf(3, []int{1, 2, 3}, []int{-1, -2, -3}), []bool{x, x, x}, false},
		{cnf(3, []int{1, 2, 3}, []int{-1, -2, -3}), []bool{x, o, x}, true},
		{cnf(3, []int{3}, []int{}), []bool{x, x, x}, false},
	} {
		if is, ok := impl.Meets(row.c, row.values); is != row.want || !ok {
			t.Errorf("Meets(%v, %v): %v, %v", row.c, row.values, is, ok)
		}
	}
}

func TestMeetsOfDrawnClauses(t *testing.T) {
	everyCnf(60, 300, func(d drawer, c impl.Cnf) {
		everyValues(min(c.Names, 7), func(values []bool) {
			values = append(values, d.bits(c.Names-len(values))...)
			if is, ok := impl.Meets(c, values); is != metWant(c, values) || !ok {
				t.Fatalf("Meets(%v, %v): %v, %v", c, values, is, ok)
			}
		})
	})
}

func TestMeetsByTheLengthOfTheValues(t *testing.T) {
	for _, names := range []int{0, 1, 3, 400} {
		for _, length := range []int{0, 1, 2, 3, 4, 399, 400, 401, 5000} {
			is, ok := impl.Meets(cnf(names), make([]bool, length))
			if want := names == length; is != want || ok != want {
				t.Errorf("%d values for %d names: %v, %v", length, names, is, ok)
			}
		}
	}
}

func TestCountOfByHand(t *testing.T) {
	for _, row := range []struct {
		c    impl.Cnf
		want int
	}{
		{cnf(0), 1},
		{cnf(0, nil), 0},
		{cnf(1), 2},
		{cnf(10), 1024},
		{cnf(10, nil), 0},
		{cnf(10, []int{1}, nil), 0},
		{cnf(10, []int{10}), 512},
		{cnf(10, []int{-10}, []int{1, -1}), 512},
		{cnf(10, []int{1, 2, 3, 4, 5, 6, 7, 8}), 1020},
		{cnf(9, []int{1, 9}, []int{-1, -9}), 256},
		{cnf(2, []int{1, 2}, []int{-1, 2}), 2},
		{cnf(1, []int{1}, []int{-1}), 0},
	} {
		if n, ok := impl.CountOf(row.c); n != row.want || !ok {
			t.Errorf("CountOf(%v): %d, %v, not %d", row.c, n, ok, row.want)
		}
	}
	for _, names := range []int{11, 12, 64, 399, 400, 401, -1, math.MaxInt, math.MinInt} {
		for _, c := range []impl.Cnf{cnf(names), cnf(names, nil), cnf(names, []int{1}, []int{-1})} {
			if n, ok := impl.CountOf(c); n != 0 || ok {
				t.Errorf("CountOf(%v): %d, %v", c, n, ok)
			}
		}
	}
}

func TestCountOfDrawnClauses(t *testing.T) {
	some := map[bool]int{}
	everyCnf(61, 330, func(d drawer, c impl.Cnf) {
		want := countWant(c)
		some[want > 0]++
		if n, ok := impl.CountOf(c); n != want || !ok {
			t.Fatalf("CountOf(%v): %d, %v, not %d", c, n, ok, want)
		}
	})
	if some[true] < 50 || some[false] < 50 {
		t.Error("too few of a sort are drawn", some)
	}
}

// The greatest set of clauses of which values may be counted.
func TestCountOfAllClauses(t *testing.T) {
	c := cnf(10, slices.Repeat([][]int{{-1, -1, -1, -1, -1, -1, -1, 10}}, impl.MaxClauses)...)
	if n, ok := impl.CountOf(c); n != 768 || !ok {
		t.Errorf("%d, %v", n, ok)
	}
}

func resolveWant(a []int, b []int, name int) []int {
	var out []int
	for n := 1; n <= 400; n++ {
		for _, l := range []int{-n, n} {
			if slices.Contains(a, l) && l != name || slices.Contains(b, l) && l != -name {
				out = append(out, l)
			}
		}
	}
	return out
}

func TestResolveOnByHand(t *testing.T) {
	for _, row := range []struct {
		a, b []int
		name int
		want []int
	}{
		{[]int{1}, []int{-1}, 1, nil},
		{[]int{400}, []int{-400}, 400, nil},
		{[]int{1, 2}, []int{-1, 3}, 1, []int{2, 3}},
		{[]int{3, 1}, []int{2, -1}, 1, []int{2, 3}},
		{[]int{2, 1, 2, 1}, []int{-1, 2, -1}, 1, []int{2}},
		{[]int{7, 7, 7, 7, 7, 7, 7, 7}, []int{-7, -7, -7, -7, -7, -7, -7, -7}, 7, nil},
		{[]int{1, -1}, []int{-1, 1}, 1, []int{-1, 1}},
		{[]int{1, -1}, []int{-1}, 1, []int{-1}},
		{[]int{1}, []int{-1, 1}, 1, []int{1}},
		{[]int{5, -3, 1}, []int{3, -1, -5}, 1, []int{-3, 3, -5, 5}},
		{[]int{-3, 5, 1}, []int{-5, -1, 3}, 1, []int{-3, 3, -5, 5}},
		{[]int{400, -2, 9}, []int{-9, -400}, 9, []int{-2, -400, 400}},
		{[]int{10, -9, 2, 100}, []int{-2, 9, 20}, 2, []int{-9, 9, 10, 20, 100}},
		{[]int{1, 2, 3, 4, 5}, []int{-1, 6, 7, 8, 9}, 1, []int{2, 3, 4, 5, 6, 7, 8, 9}},
		{[]int{1, 2, 3, 4, 5, 6, 7, 8}, []int{-1, 2, 3, 4, 5, 6, 7, 9}, 1, []int{2, 3, 4, 5, 6, 7, 8, 9}},
		{[]int{1, 2, 3, 4, 5, 6, 7, 8}, []int{-1, -8}, 1, []int{2, 3, 4, 5, 6, 7, -8, 8}},
		{[]int{1, 2, 3, 4, 5, 6, 7, 8}, []int{-1, 1}, 1, []int{1, 2, 3, 4, 5, 6, 7, 8}},
	} {
		if l, ok := impl.ResolveOn(row.a, row.b, row.name); !ok || !slices.Equal(l, row.want) {
			t.Errorf("ResolveOn(%v, %v, %d): %v, %v", row.a, row.b, row.name, l, ok)
		}
	}
}

func checkUnresolved(t *testing.T, a []int, b []int, name int) {
	t.Helper()
	if l, ok := impl.ResolveOn(a, b, name); len(l) != 0 || ok {
		t.Errorf("ResolveOn(%v, %v, %d): %v, %v", a, b, name, l, ok)
	}
}

func TestResolveOnOfWhatIsNot(t *testing.T) {
	checkUnresolved(t, []int{1, 2, 400}, []int{-1, -2, -400}, 3)
	for _, name := range []int{0, -1, -400, 401, 402, -401, math.MinInt, math.MinInt + 1, math.MaxInt} {
		checkUnresolved(t, []int{1, 2, 400}, []int{-1, -2, -400}, name)
		checkUnresolved(t, []int{1, name}, []int{-1, -name}, name)
		checkUnresolved(t, []int{1, -name, name}, []int{-1, name, -name}, name)
	}
	checkUnresolved(t, nil, nil, 1)
	checkUnresolved(t, []int{1}, nil, 1)
	checkUnresolved(t, nil, []int{-1}, 1)
	checkUnresolved(t, []int{-1}, []int{1}, 1)
	checkUnresolved(t, []int{-1, 2}, []int{-1, 2}, 1)
	checkUnresolved(t, []int{1, 2}, []int{1, 2}, 1)
	checkUnresolved(t, []int{1, 2, 3, 4, 5}, []int{-1, 6, 7, 8, 9, 10}, 1)
	checkUnresolved(t, []int{1, 2, 3, 4, 5, 6, 7, 8}, []int{-1, 9, 10}, 1)
	checkUnresolved(t, []int{1, 2, 3, 4, 5, 6, 7, 8}, []int{-1, 1, -2}, 1)
	checkUnresolved(t, []int{1, 2, 3, 4, 5, 6, 7, 8}, []int{-1, -2, -3, -4, -5, -6, -7, -8}, 1)
	for _, size := range []int{9, 10, 5000} {
		checkUnresolved(t, slices.Repeat([]int{1}, size), []int{-1}, 1)
		checkUnresolved(t, []int{1}, slices.Repeat([]int{-1}, size), 1)
	}
	for _, bad := range []int{0, 401, -401, math.MinInt, math.MinInt + 1, math.MaxInt} {
		for place := range 3 {
			a, b := []int{5, 5, 5}, []int{-5, -5, -5}
			a[place] = bad
			checkUnresolved(t, a, b, 5)
			a[place], b[place] = 5, bad
			checkUnresolved(t, a, b, 5)
		}
	}
}

// What is resolved is met wherever both are (Robinson).
func TestResolveOnOfDrawnClauses(t *testing.T) {
	d := newDrawer(62)
	long := map[bool]int{}
	for k := range 3000 {
		names := []int{3, 6, 10, impl.MaxNames}[k%4]
		a, b := d.clause(names, 1+d.Intn(8)), d.clause(names, 1+d.Intn(8))
		name := d.literal(names)
		if k%3 > 0 {
			name = nameIn(name)
			a[d.Intn(len(a))], b[d.Intn(len(b))] = name, -name
		}
		want := resolveWant(a, b, name)
		good := name > 0 && slices.Contains(a, name) && slices.Contains(b, -name) && len(want) <= 8
		long[good]++
		l, ok := impl.ResolveOn(a, b, name)
		if ok != good || good && !slices.Equal(l, want) || !good && len(l) != 0 {
			t.Fatalf("ResolveOn(%v, %v, %d): %v, %v, not %v", a, b, name, l, ok, want)
		}
		if !good {
			continue
		}
		for range 20 {
			values := d.bits(names)
			if metWant(cnf(names, a, b), values) && !metWant(cnf(names, l), values) {
				t.Fatalf("%v meets %v and %v, and not %v", values, a, b, l)
			}
		}
	}
	if long[true] < 500 || long[false] < 500 {
		t.Error("too few of a sort are drawn", long)
	}
}

// badCnfs are not good by one rule each.
var badCnfs = map[string]impl.Cnf{
	"names below 0":             cnf(-1),
	"names beyond":              cnf(401),
	"least names":               cnf(math.MinInt, []int{1}),
	"greatest names":            cnf(math.MaxInt, []int{1}),
	"too many clauses":          cnf(3, slices.Repeat([][]int{{1}}, 1401)...),
	"too many literals":         cnf(3, []int{1, 1, 1, 1, 1, 1, 1, 1, 1}),
	"the literal 0":             cnf(3, []int{1, 0}),
	"0 behind an empty clause":  cnf(3, nil, []int{0}),
	"a name beyond":             cnf(3, []int{1}, []int{2, 4}),
	"a negation beyond":         cnf(3, []int{-4}),
	"a name of none":            cnf(0, []int{1}),
	"the least literal":         cnf(400, []int{math.MinInt}),
	"the greatest literal":      cnf(400, []int{math.MaxInt}),
	"a name beyond all":         cnf(400, []int{401, 400}),
	"a negation beyond all":     cnf(400, []int{-401}),
	"0 behind contrary clauses": cnf(3, []int{1}, []int{-1}, []int{0}),
}

func TestCnfsThatAreNotGood(t *testing.T) {
	for name, c := range badCnfs {
		if impl.GoodCnf(c) {
			t.Errorf("%s: good", name)
		}
		for _, length := range []int{0, 3, 400, 401, min(max(c.Names, 0), 500)} {
			if is, ok := impl.Meets(c, make([]bool, length)); is || ok {
				t.Errorf("%s: meets %v, %v", name, is, ok)
			}
		}
		for _, given := range [][]int{nil, {1}, {-2, 1}, {0}, {4}} {
			if l, bad, ok := impl.Forced(c, given); len(l) != 0 || bad || ok {
				t.Errorf("%s: forced by %v: %v, %v, %v", name, given, l, bad, ok)
			}
		}
		for _, budget := range []int{-1, 0, 1, 300, 301} {
			checkUnsolved(t, name, c, budget)
		}
		if n, ok := impl.CountOf(c); n != 0 || ok {
			t.Errorf("%s: count %d, %v", name, n, ok)
		}
	}
}
