package tests

import (
	"math"
	"reflect"
	"slices"
	"testing"

	"loop.example/g00649/impl"
)

// flipped is a number of so many nodes.
func flipped(size int) []impl.Node {
	t := nodes(impl.OpVar, 0)
	for len(t) < size {
		t = append(t, impl.Node{Op: impl.OpFlip})
	}
	return t
}

// denied is a condition of so many nodes.
func denied(size int) []impl.Node {
	t := nodes(impl.OpYes, 1)
	for len(t) < size {
		t = append(t, impl.Node{Op: impl.OpNo})
	}
	return t
}

// summed is a number of 2 * count - 1 nodes that names variable 0 count times.
func summed(count int) []impl.Node {
	t := nodes(impl.OpVar, 0)
	for range count - 1 {
		t = append(t, nodes(impl.OpVar, 0, impl.OpAdd, 0)...)
	}
	return t
}

func sameNodes(a []impl.Node, b []impl.Node) bool { return slices.Equal(a, b) }

// everyTerm draws terms of both kinds, many of them with all the nodes that are allowed.
func everyTerm(seed int64, count int, f func(d drawer, wide, vars int, t []impl.Node)) {
	d := newDrawer(seed)
	for k := range count {
		wide := d.of(someWides)
		vars := 1 + d.Intn(impl.MaxVars)
		room := 1 + d.Intn(impl.MaxNodes)
		f(d, wide, vars, d.term(wide, vars, 1+k%2, room))
	}
}

func TestTermConstants(t *testing.T) {
	ops := []int{
		impl.OpNum, impl.OpVar, impl.OpAdd, impl.OpSub, impl.OpMul, impl.OpDiv, impl.OpRem, impl.OpAnd, impl.OpOr, impl.OpXor,
		impl.OpLeft, impl.OpRight, impl.OpFlip, impl.OpEq, impl.OpLess, impl.OpLessS, impl.OpBoth, impl.OpEither, impl.OpNo, impl.OpYes,
	}
	for k, op := range ops {
		if op != k+1 {
			t.Errorf("op %d is %d", k+1, op)
		}
	}
	if impl.MaxNodes != 48 || impl.MaxVars != 4 {
		t.Error("limits", impl.MaxNodes, impl.MaxVars)
	}
}

// readBack tells by the other way round whether t ends in a tree: from the root, behind, to its parts; and what is ahead of that tree.
func readBack(wide int, vars int, t []impl.Node) (kind int, ahead []impl.Node, ok bool) {
	if len(t) == 0 {
		return 0, nil, false
	}
	root := t[len(t)-1]
	takes, of, kind := partsTaken(root.Op)
	switch {
	case takes < 0:
		return 0, nil, false
	case root.Op == impl.OpNum:
		ok = impl.GoodWord(wide, root.N)
	case root.Op == impl.OpVar:
		ok = root.N < uint64(vars)
	default:
		ok = root.N == 0 || root.Op == impl.OpYes && root.N == 1
	}
	ahead = t[:len(t)-1]
	for k := 0; k < takes && ok; k++ {
		var is int
		is, ahead, ok = readBack(wide, vars, ahead)
		ok = ok && is == of
	}
	return kind, ahead, ok
}

func spoiled(d drawer, t []impl.Node) []impl.Node {
	t = slices.Clone(t)
	k := d.Intn(len(t))
	switch d.Intn(6) {
	case 0:
		t[k].Op = d.Intn(23) - 1
	case 1:
		t[k].N ^= uint64(1) << d.Intn(64)
	case 2:
		t[k].N = uint64(d.Intn(6))
	case 3:
		return slices.Delete(t, k, k+1)
	case 4:
		return slices.Insert(t, k, impl.Node{Op: 1 + d.Intn(20)})
	case 5:
		m := d.Intn(len(t))
		t[k], t[m] = t[m], t[k]
	}
	return t
}

func TestGoodTermOfDrawnTerms(t *testing.T) {
	counts := map[bool]int{}
	everyTerm(1, 4000, func(d drawer, wide, vars int, u []impl.Node) {
		if !impl.GoodTerm(wide, vars, u) {
			t.Fatalf("GoodTerm(%d, %d, %v): false", wide, vars, u)
		}
		bad := spoiled(d, u)
		_, ahead, ok := readBack(wide, vars, bad)
		want := ok && len(ahead) == 0 && len(bad) <= impl.MaxNodes
		if got := impl.GoodTerm(wide, vars, bad); got != want {
			t.Errorf("GoodTerm(%d, %d, %v): %v", wide, vars, bad, got)
		}
		counts[want]++
	})
	if counts[true] < 200 || counts[false] < 200 {
		t.Error("too few of one sort", counts)
	}
}

// notGood are lists that are no terms of wide 4 and 2 variables.
var notGood = map[string][]impl.Node{
	"no node":                        {},
	"flip of nothing":                nodes(impl.OpFlip, 0),
	"no of nothing":                  nodes(impl.OpNo, 0),
	"sum of nothing":                 nodes(impl.OpAdd, 0),
	"sum of one":                     nodes(impl.OpVar, 0, impl.OpAdd, 0),
	"both of one":                    nodes(impl.OpYes, 1, impl.OpBoth, 0),
	"node ahead of its parts":        nodes(impl.OpAdd, 0, impl.OpVar, 0, impl.OpVar, 1),
	"too little, made good later":    nodes(impl.OpVar, 0, impl.OpAdd, 0, impl.OpVar, 1, impl.OpVar, 1),
	"flip of a condition":            nodes(impl.OpYes, 1, impl.OpFlip, 0),
	"no of a number":                 nodes(impl.OpVar, 0, impl.OpNo, 0),
	"sum, the first a condition":     nodes(impl.OpYes, 1, impl.OpVar, 0, impl.OpAdd, 0),
	"sum, the second a condition":    nodes(impl.OpVar, 0, impl.OpYes, 1, impl.OpAdd, 0),
	"equal, of conditions":           nodes(impl.OpYes, 1, impl.OpYes, 1, impl.OpEq, 0),
	"both, the first a number":       nodes(impl.OpNum, 1, impl.OpYes, 1, impl.OpBoth, 0),
	"either, the second a number":    nodes(impl.OpYes, 1, impl.OpNum, 1, impl.OpEither, 0),
	"wrong kind, shown late":         nodes(impl.OpYes, 0, impl.OpVar, 0, impl.OpVar, 1, impl.OpMul, 0, impl.OpFlip, 0, impl.OpNum, 3, impl.OpSub, 0, impl.OpEither, 0),
	"condition below, shown late":    nodes(impl.OpVar, 0, impl.OpVar, 1, impl.OpLess, 0, impl.OpNum, 2, impl.OpNum, 3, impl.OpXor, 0, impl.OpRight, 0),
	"N of an op of two":              nodes(impl.OpVar, 0, impl.OpVar, 1, impl.OpAdd, 1),
	"N of an op of one":              nodes(impl.OpVar, 0, impl.OpFlip, 1),
	"N of no":                        nodes(impl.OpYes, 0, impl.OpNo, 1),
	"N of a comparison":              nodes(impl.OpVar, 0, impl.OpVar, 1, impl.OpEq, 2),
	"N of a join":                    nodes(impl.OpYes, 0, impl.OpYes, 0, impl.OpBoth, 1),
	"N that is great":                {{Op: impl.OpVar}, {Op: impl.OpFlip, N: math.MaxUint64}},
	"number of 5 bits":               nodes(impl.OpNum, 16),
	"number of 64 bits":              {{Op: impl.OpNum, N: math.MaxUint64}},
	"number of 5 bits within":        nodes(impl.OpVar, 0, impl.OpNum, 16, impl.OpAdd, 0),
	"variable 2 of 2":                nodes(impl.OpVar, 2),
	"variable far beyond":            {{Op: impl.OpVar, N: 1 << 63}},
	"yes of 2":                       nodes(impl.OpYes, 2),
	"yes of many":                    {{Op: impl.OpYes, N: math.MaxUint64}},
	"op 0":                           nodes(0, 0),
	"op 21":                          nodes(21, 0),
	"op below 0":                     nodes(-1, 0),
	"op 21 behind parts":             nodes(impl.OpVar, 0, impl.OpVar, 1, 21, 0),
	"op 0 behind a term":             nodes(impl.OpVar, 0, 0, 0),
	"least op":                       nodes(math.MinInt, 0),
	"greatest op":                    nodes(math.MaxInt, 0),
	"two roots":                      nodes(impl.OpVar, 0, impl.OpVar, 1),
	"two roots of two kinds":         nodes(impl.OpYes, 1, impl.OpVar, 1),
	"two roots, a tree and a number": nodes(impl.OpVar, 0, impl.OpFlip, 0, impl.OpVar, 1),
	"three roots":                    nodes(impl.OpVar, 0, impl.OpVar, 1, impl.OpVar, 1),
	"one node too many":              flipped(49),
	"one node too many, a condition": denied(49),
	"far too many":                   flipped(5000),
	"far too many roots":             make([]impl.Node, 5000),
}

func TestGoodTermEdges(t *testing.T) {
	for name, u := range notGood {
		if impl.GoodTerm(4, 2, u) {
			t.Errorf("%s: good", name)
		}
	}
	if impl.GoodTerm(4, 2, nil) {
		t.Error("nil: good")
	}
	good := [][]impl.Node{
		nodes(impl.OpNum, 15), nodes(impl.OpVar, 1), nodes(impl.OpYes, 0), nodes(impl.OpYes, 1), flipped(48), denied(48),
	}
	for _, u := range good {
		if !impl.GoodTerm(4, 2, u) {
			t.Errorf("not good: %v", u)
		}
	}
	for vars := 1; vars <= 4; vars++ {
		for k := range 6 {
			if impl.GoodTerm(4, vars, nodes(impl.OpVar, k)) != (k < vars) {
				t.Errorf("variable %d of %d", k, vars)
			}
		}
	}
	for wide := 1; wide <= 64; wide++ {
		top := greatest(wide)
		if !impl.GoodTerm(wide, 1, []impl.Node{{Op: impl.OpNum, N: top}}) || wide < 64 && impl.GoodTerm(wide, 1, []impl.Node{{Op: impl.OpNum, N: top + 1}}) {
			t.Errorf("numbers at wide %d", wide)
		}
	}
}

func TestKindOf(t *testing.T) {
	everyTerm(2, 500, func(_ drawer, wide, vars int, u []impl.Node) {
		_, _, want := partsTaken(u[len(u)-1].Op)
		if got, ok := impl.KindOf(wide, vars, u); got != want || !ok {
			t.Errorf("KindOf(%d, %d, %v): %d, %v", wide, vars, u, got, ok)
		}
	})
}

func TestValueOfEachOp(t *testing.T) {
	for _, op := range append(slices.Concat(numberOps, compareOps), impl.OpFlip) {
		u := nodes(impl.OpVar, 0, impl.OpVar, 1, op, 0)
		if op == impl.OpFlip {
			u = nodes(impl.OpVar, 0, op, 0)
		}
		everyPair(func(wide int, a, b uint64) {
			if wide > 6 && !slices.Contains(someWides, wide) {
				return
			}
			if got, ok := impl.ValueOf(wide, u, []uint64{a, b}); got != opWorth(wide, op, a, b) || !ok {
				t.Errorf("op %d at wide %d of %d and %d: %d, %v", op, wide, a, b, got, ok)
			}
		})
	}
	for _, op := range []int{impl.OpBoth, impl.OpEither, impl.OpNo} {
		for k := range 4 {
			u := nodes(impl.OpYes, k&1, impl.OpYes, k>>1, op, 0)
			if op == impl.OpNo {
				u = nodes(impl.OpYes, k&1, op, 0)
			}
			if got, ok := impl.ValueOf(64, u, []uint64{0}); got != opWorth(64, op, uint64(k&1), uint64(k>>1)) || !ok {
				t.Errorf("%v: %d, %v", u, got, ok)
			}
		}
	}
}

// The edges of the ops with the numbers written out, at the wides where uint64 itself would go wrong.
func TestValueOfEdges(t *testing.T) {
	const half, all63 = 1 << 63, 1<<63 - 1
	cases := []struct {
		wide, op int
		a, b     uint64
		want     uint64
	}{
		{1, impl.OpAdd, 1, 1, 0}, {63, impl.OpAdd, all63, 1, 0}, {64, impl.OpAdd, math.MaxUint64, 1, 0},
		{1, impl.OpSub, 0, 1, 1}, {63, impl.OpSub, 0, 1, all63}, {64, impl.OpSub, 0, 1, math.MaxUint64},
		{1, impl.OpMul, 1, 1, 1}, {63, impl.OpMul, 1 << 62, 2, 0}, {64, impl.OpMul, half, 3, half},
		{1, impl.OpDiv, 0, 0, 1}, {63, impl.OpDiv, 5, 0, all63}, {64, impl.OpDiv, 5, 0, math.MaxUint64},
		{1, impl.OpRem, 1, 0, 1}, {63, impl.OpRem, 5, 0, 5}, {64, impl.OpRem, math.MaxUint64, 0, math.MaxUint64},
		{64, impl.OpDiv, 7, 2, 3}, {64, impl.OpRem, 7, 2, 1}, {64, impl.OpDiv, math.MaxUint64, half, 1},
		{1, impl.OpLeft, 1, 1, 0}, {63, impl.OpLeft, all63, 63, 0}, {64, impl.OpLeft, math.MaxUint64, 64, 0},
		{63, impl.OpLeft, all63, 62, 1 << 62}, {64, impl.OpLeft, 1, 63, half}, {64, impl.OpLeft, 1, half, 0}, {64, impl.OpLeft, 1, 65, 0},
		{1, impl.OpRight, 1, 1, 0}, {63, impl.OpRight, all63, 63, 0}, {64, impl.OpRight, math.MaxUint64, 64, 0},
		{63, impl.OpRight, all63, 62, 1}, {64, impl.OpRight, half, 63, 1}, {64, impl.OpRight, 1, math.MaxUint64, 0},
		{1, impl.OpLessS, 1, 0, 1}, {63, impl.OpLessS, 1 << 62, 0, 1}, {64, impl.OpLessS, half, all63, 1}, {64, impl.OpLessS, 0, half, 0},
		{1, impl.OpLess, 1, 0, 0}, {63, impl.OpLess, 1 << 62, 0, 0}, {64, impl.OpLess, all63, half, 1},
		{64, impl.OpLess, 3, 3, 0}, {64, impl.OpLessS, 3, 3, 0}, {64, impl.OpEq, half, half, 1}, {64, impl.OpEq, half, 0, 0},
		{63, impl.OpXor, all63, 1, all63 - 1}, {64, impl.OpOr, half, 1, half + 1}, {64, impl.OpAnd, math.MaxUint64, half, half},
	}
	for _, c := range cases {
		got, ok := impl.ValueOf(c.wide, nodes(impl.OpVar, 0, impl.OpVar, 1, c.op, 0), []uint64{c.a, c.b})
		if got != c.want || !ok {
			t.Errorf("op %d at wide %d of %d and %d: %d, %v; want %d", c.op, c.wide, c.a, c.b, got, ok, c.want)
		}
	}
	for wide, want := range map[int]uint64{1: 1, 63: all63, 64: math.MaxUint64} {
		if got, ok := impl.ValueOf(wide, nodes(impl.OpVar, 0, impl.OpFlip, 0), []uint64{0}); got != want || !ok {
			t.Errorf("flip at wide %d: %d, %v", wide, got, ok)
		}
	}
}

func TestValueOfDrawnTerms(t *testing.T) {
	everyTerm(3, 2000, func(d drawer, wide, vars int, u []impl.Node) {
		s := d.state(wide, vars)
		if got, ok := impl.ValueOf(wide, u, s); got != worth(wide, u, s) || !ok {
			t.Errorf("ValueOf(%d, %v, %v): %d, %v; want %d", wide, u, s, got, ok, worth(wide, u, s))
		}
	})
}

func TestVarsIn(t *testing.T) {
	everyTerm(4, 1000, func(_ drawer, wide, vars int, u []impl.Node) {
		var want []int
		for k := range vars {
			if slices.Contains(u, impl.Node{Op: impl.OpVar, N: uint64(k)}) {
				want = append(want, k)
			}
		}
		if got, ok := impl.VarsIn(wide, vars, u); !slices.Equal(got, want) || !ok {
			t.Errorf("VarsIn(%d, %d, %v): %v, %v", wide, vars, u, got, ok)
		}
	})
	u := nodes(impl.OpVar, 3, impl.OpVar, 1, impl.OpAdd, 0, impl.OpVar, 3, impl.OpVar, 0, impl.OpAdd, 0, impl.OpLess, 0)
	if got, ok := impl.VarsIn(4, 4, u); !slices.Equal(got, []int{0, 1, 3}) || !ok {
		t.Error(got, ok)
	}
	first, _ := impl.VarsIn(4, 4, u)
	clear(first[:cap(first)])
	if got, ok := impl.VarsIn(4, 4, u); !slices.Equal(got, []int{0, 1, 3}) || !ok {
		t.Error("kept from the call ahead", got, ok)
	}
	if got, ok := impl.VarsIn(4, 4, nodes(impl.OpNum, 3)); len(got) != 0 || !ok {
		t.Error("of a number", got, ok)
	}
}

func TestJoinTerms(t *testing.T) {
	everyTerm(5, 800, func(d drawer, wide, vars int, a []impl.Node) {
		kind, _ := impl.KindOf(wide, vars, a)
		b := d.term(wide, vars, 1+d.Intn(2), 1+d.Intn(40))
		other, _ := impl.KindOf(wide, vars, b)
		s := d.state(wide, vars)
		for op := -1; op <= 22; op++ {
			takes, of, _ := partsTaken(op)
			want := takes == 2 && kind == of && other == of && len(a)+len(b) < impl.MaxNodes
			got, ok := impl.JoinTerms(wide, vars, op, a, b)
			if ok != want || !ok && len(got) != 0 {
				t.Fatalf("JoinTerms(%d, %d, %d, %v, %v): %v, %v", wide, vars, op, a, b, got, ok)
			}
			if !ok {
				continue
			}
			if !sameNodes(got, append(slices.Concat(a, b), impl.Node{Op: op})) {
				t.Fatalf("JoinTerms(%d, %d, %d, %v, %v): %v", wide, vars, op, a, b, got)
			}
			if n, _ := impl.ValueOf(wide, got, s); n != opWorth(wide, op, worth(wide, a, s), worth(wide, b, s)) {
				t.Errorf("value of %v at %v: %d", got, s, n)
			}
		}
	})
}

func TestTurnTerm(t *testing.T) {
	everyTerm(6, 800, func(d drawer, wide, vars int, a []impl.Node) {
		kind, _ := impl.KindOf(wide, vars, a)
		s := d.state(wide, vars)
		for op := -1; op <= 22; op++ {
			want := (op == impl.OpFlip && kind == 1 || op == impl.OpNo && kind == 2) && len(a) < impl.MaxNodes
			got, ok := impl.TurnTerm(wide, vars, op, a)
			if ok != want || !ok && len(got) != 0 {
				t.Fatalf("TurnTerm(%d, %d, %d, %v): %v, %v", wide, vars, op, a, got, ok)
			}
			if !ok {
				continue
			}
			if !sameNodes(got, append(slices.Clone(a), impl.Node{Op: op})) {
				t.Fatalf("TurnTerm(%d, %d, %d, %v): %v", wide, vars, op, a, got)
			}
			if n, _ := impl.ValueOf(wide, got, s); n != opWorth(wide, op, worth(wide, a, s), 0) {
				t.Errorf("value of %v at %v: %d", got, s, n)
			}
			if twice, ok := impl.TurnTerm(wide, vars, op, got); ok {
				if n, _ := impl.ValueOf(wide, twice, s); n != worth(wide, a, s) {
					t.Errorf("value of %v at %v: %d", twice, s, n)
				}
			}
		}
	})
}

func TestJoinAndTurnAtTheLimit(t *testing.T) {
	if got, ok := impl.JoinTerms(4, 2, impl.OpSub, flipped(24), flipped(23)); !ok || len(got) != 48 {
		t.Error("join up to MaxNodes", len(got), ok)
	}
	if got, ok := impl.JoinTerms(4, 2, impl.OpSub, flipped(24), flipped(24)); ok || len(got) != 0 {
		t.Error("join beyond MaxNodes", len(got), ok)
	}
	if got, ok := impl.TurnTerm(4, 2, impl.OpNo, denied(47)); !ok || len(got) != 48 {
		t.Error("turn up to MaxNodes", len(got), ok)
	}
	if got, ok := impl.TurnTerm(4, 2, impl.OpNo, denied(48)); ok || len(got) != 0 {
		t.Error("turn beyond MaxNodes", len(got), ok)
	}
}

// spliced is the term with by's nodes where its variables stood.
func spliced(t []impl.Node, by [][]impl.Node) []impl.Node {
	var out []impl.Node
	for _, n := range t {
		if n.Op == impl.OpVar {
			out = append(out, by[n.N]...)
		} else {
			out = append(out, n)
		}
	}
	return out
}

func TestPutAllDoesAsTheValues(t *testing.T) {
	counts := map[bool]int{}
	everyTerm(7, 3000, func(d drawer, wide, vars int, u []impl.Node) {
		s := d.state(wide, vars)
		var by [][]impl.Node
		var values []uint64
		for range vars {
			b := d.term(wide, vars, 1, 1+d.Intn(1+d.Intn(20)))
			by = append(by, b)
			values = append(values, worth(wide, b, s))
		}
		want := spliced(u, by)
		got, ok := impl.PutAll(wide, vars, u, by)
		counts[ok]++
		if len(want) > impl.MaxNodes {
			if ok || len(got) != 0 {
				t.Errorf("PutAll(%d, %d, %v, %v) beyond MaxNodes: %v, %v", wide, vars, u, by, got, ok)
			}
			return
		}
		if !ok || !sameNodes(got, want) {
			t.Fatalf("PutAll(%d, %d, %v, %v): %v, %v", wide, vars, u, by, got, ok)
		}
		n, _ := impl.ValueOf(wide, got, s)
		m, _ := impl.ValueOf(wide, u, values)
		if n != m {
			t.Errorf("%v at %v: %d; %v at %v: %d", got, s, n, u, values, m)
		}
	})
	if counts[true] < 300 || counts[false] < 300 {
		t.Error("too few of one sort", counts)
	}
}

func TestPutAllIsAllAtOnce(t *testing.T) {
	u := nodes(impl.OpVar, 0, impl.OpVar, 1, impl.OpSub, 0)
	swap := [][]impl.Node{nodes(impl.OpVar, 1), nodes(impl.OpVar, 0)}
	if got, ok := impl.PutAll(4, 2, u, swap); !ok || !sameNodes(got, nodes(impl.OpVar, 1, impl.OpVar, 0, impl.OpSub, 0)) {
		t.Error(got, ok)
	}
	// A term without variables stays as it is, but what is put must be good all the same.
	if got, ok := impl.PutAll(4, 2, nodes(impl.OpYes, 1), swap); !ok || !sameNodes(got, nodes(impl.OpYes, 1)) {
		t.Error(got, ok)
	}
}

func TestPutAllAtTheLimit(t *testing.T) {
	cases := []struct {
		from, by []impl.Node
		size     int
	}{
		{flipped(24), flipped(24), 47},
		{flipped(24), flipped(25), 48},
		{flipped(24), flipped(26), 0},
		{flipped(48), nodes(impl.OpNum, 3), 48},
		{flipped(48), flipped(2), 0},
		{summed(24), nodes(impl.OpNum, 3), 47},
		{summed(24), flipped(2), 0},
		{summed(24), flipped(48), 0},
		{flipped(1), flipped(48), 48},
	}
	for _, c := range cases {
		got, ok := impl.PutAll(4, 1, c.from, [][]impl.Node{c.by})
		if len(got) != c.size || ok != (c.size > 0) {
			t.Errorf("%d nodes put into %d: %d, %v; want %d", len(c.by), len(c.from), len(got), ok, c.size)
		}
	}
}

func foldedWant(wide int, t []impl.Node) []impl.Node {
	root := t[len(t)-1]
	if !slices.ContainsFunc(t, func(n impl.Node) bool { return n.Op == impl.OpVar }) {
		_, _, kind := partsTaken(root.Op)
		return []impl.Node{{Op: []int{impl.OpNum, impl.OpYes}[kind-1], N: worth(wide, t, nil)}}
	}
	var out []impl.Node
	for _, part := range splitTerm(t) {
		out = append(out, foldedWant(wide, part)...)
	}
	return append(out, root)
}

func TestFoldTermComesToTheSame(t *testing.T) {
	shorter := 0
	everyTerm(8, 3000, func(d drawer, wide, vars int, u []impl.Node) {
		got, ok := impl.FoldTerm(wide, vars, u)
		if !ok || !sameNodes(got, foldedWant(wide, u)) {
			t.Fatalf("FoldTerm(%d, %d, %v): %v, %v", wide, vars, u, got, ok)
		}
		if len(got) < len(u) {
			shorter++
		}
		for range 5 {
			s := d.state(wide, vars)
			if n, _ := impl.ValueOf(wide, got, s); n != worth(wide, u, s) {
				t.Errorf("value of %v at %v: %d", got, s, n)
			}
		}
		before, _ := impl.VarsIn(wide, vars, u)
		behind, _ := impl.VarsIn(wide, vars, got)
		again, _ := impl.FoldTerm(wide, vars, got)
		if !slices.Equal(before, behind) || !sameNodes(again, got) {
			t.Errorf("FoldTerm(%d, %d, %v): %v; again %v", wide, vars, u, got, again)
		}
	})
	if shorter < 500 {
		t.Error("too few that are folded", shorter)
	}
}

func TestFoldTermByHand(t *testing.T) {
	cases := []struct{ from, to []impl.Node }{
		{nodes(impl.OpNum, 3, impl.OpNum, 0, impl.OpDiv, 0), nodes(impl.OpNum, 15)},
		{nodes(impl.OpNum, 9, impl.OpNum, 1, impl.OpLessS, 0), nodes(impl.OpYes, 1)},
		{nodes(impl.OpYes, 1, impl.OpNo, 0), nodes(impl.OpYes, 0)},
		{nodes(impl.OpYes, 1), nodes(impl.OpYes, 1)},
		{nodes(impl.OpVar, 1, impl.OpFlip, 0), nodes(impl.OpVar, 1, impl.OpFlip, 0)},
		// What a variable can't change is not looked for: no tree here is without one.
		{nodes(impl.OpVar, 0, impl.OpVar, 0, impl.OpSub, 0), nodes(impl.OpVar, 0, impl.OpVar, 0, impl.OpSub, 0)},
		{nodes(impl.OpYes, 0, impl.OpVar, 0, impl.OpNum, 1, impl.OpNum, 1, impl.OpAdd, 0, impl.OpEq, 0, impl.OpBoth, 0),
			nodes(impl.OpYes, 0, impl.OpVar, 0, impl.OpNum, 2, impl.OpEq, 0, impl.OpBoth, 0)},
	}
	for _, c := range cases {
		if got, ok := impl.FoldTerm(4, 2, c.from); !ok || !sameNodes(got, c.to) {
			t.Errorf("FoldTerm(4, 2, %v): %v, %v", c.from, got, ok)
		}
	}
}

// silent asks for the zero answer of all functions of the chapter that take one term.
func silent(t *testing.T, name string, wide int, vars int, u []impl.Node) {
	t.Helper()
	number, condition := nodes(impl.OpNum, 0), nodes(impl.OpYes, 0)
	var by [][]impl.Node
	for range min(max(vars, 0), 8) {
		by = append(by, number)
	}
	if impl.GoodTerm(wide, vars, u) {
		t.Errorf("%s: good", name)
	}
	if k, ok := impl.KindOf(wide, vars, u); k != 0 || ok {
		t.Errorf("%s: kind %d, %v", name, k, ok)
	}
	if l, ok := impl.VarsIn(wide, vars, u); len(l) != 0 || ok {
		t.Errorf("%s: variables %v, %v", name, l, ok)
	}
	for op := -1; op <= 22; op++ {
		for _, other := range [][]impl.Node{number, condition, u} {
			a, ok := impl.JoinTerms(wide, vars, op, u, other)
			b, ok2 := impl.JoinTerms(wide, vars, op, other, u)
			if len(a) != 0 || len(b) != 0 || ok || ok2 {
				t.Errorf("%s: joined by %d: %v, %v, %v, %v", name, op, a, ok, b, ok2)
			}
		}
		if a, ok := impl.TurnTerm(wide, vars, op, u); len(a) != 0 || ok {
			t.Errorf("%s: turned by %d: %v, %v", name, op, a, ok)
		}
	}
	if a, ok := impl.PutAll(wide, vars, u, by); len(a) != 0 || ok {
		t.Errorf("%s: put: %v, %v", name, a, ok)
	}
	if a, ok := impl.FoldTerm(wide, vars, u); len(a) != 0 || ok {
		t.Errorf("%s: folded: %v, %v", name, a, ok)
	}
}

func TestTermsAtWrongArguments(t *testing.T) {
	for name, u := range notGood {
		silent(t, name, 4, 2, u)
		if n, ok := impl.ValueOf(4, u, []uint64{1, 2}); n != 0 || ok {
			t.Errorf("%s: value %d, %v", name, n, ok)
		}
		for k := range 2 {
			by := [][]impl.Node{nodes(impl.OpNum, 1), nodes(impl.OpNum, 2)}
			by[k] = u
			for _, over := range [][]impl.Node{nodes(impl.OpVar, 0), nodes(impl.OpVar, 1), nodes(impl.OpYes, 1)} {
				if a, ok := impl.PutAll(4, 2, over, by); len(a) != 0 || ok {
					t.Errorf("%s put for variable %d: %v, %v", name, k, a, ok)
				}
			}
		}
	}
	for _, u := range [][]impl.Node{nodes(impl.OpVar, 0), nodes(impl.OpNum, 0), nodes(impl.OpYes, 0)} {
		for _, wide := range badWides {
			silent(t, "bad wide", wide, 2, u)
			if n, ok := impl.ValueOf(wide, u, []uint64{0, 0}); n != 0 || ok {
				t.Errorf("wide %d: value %d, %v", wide, n, ok)
			}
		}
		for _, vars := range badVars {
			silent(t, "bad vars", 4, vars, u)
		}
	}
}

func TestValueOfAtWrongStates(t *testing.T) {
	for _, u := range [][]impl.Node{nodes(impl.OpNum, 1), nodes(impl.OpYes, 1), nodes(impl.OpVar, 0)} {
		for _, s := range [][]uint64{nil, {}, {1, 1, 1, 1, 1}, make([]uint64, 4000), {16}, {1, 16}, {1, 1, 1, math.MaxUint64}, {1 << 63, 0}} {
			if n, ok := impl.ValueOf(4, u, s); n != 0 || ok {
				t.Errorf("ValueOf(4, %v, %v): %d, %v", u, s, n, ok)
			}
		}
		for length := 1; length <= impl.MaxVars; length++ {
			if n, ok := impl.ValueOf(4, u, []uint64{1, 15, 15, 15}[:length]); n != 1 || !ok {
				t.Errorf("ValueOf(4, %v, ..) with %d words: %d, %v", u, length, n, ok)
			}
		}
	}
	if n, ok := impl.ValueOf(4, nodes(impl.OpVar, 2), []uint64{1, 1}); n != 0 || ok {
		t.Error("a variable that the state has not", n, ok)
	}
}

func TestPutAllAtWrongLists(t *testing.T) {
	one := nodes(impl.OpNum, 1)
	for _, by := range [][][]impl.Node{nil, {}, {one}, {one, one, one}, {one, nil}, {nil, one}, {one, nodes(impl.OpYes, 1)}, {denied(4), one}, {one, nodes(impl.OpVar, 2)}} {
		for _, u := range [][]impl.Node{nodes(impl.OpVar, 0), nodes(impl.OpVar, 1), nodes(impl.OpNum, 2), nodes(impl.OpYes, 0)} {
			if a, ok := impl.PutAll(4, 2, u, by); len(a) != 0 || ok {
				t.Errorf("PutAll(4, 2, %v, %v): %v, %v", u, by, a, ok)
			}
		}
	}
}

// spent writes over all that an answer's memory holds, behind its length too.
func spent(list []impl.Node) {
	list = list[:cap(list)]
	for k := range list {
		list[k] = impl.Node{Op: -7, N: 77}
	}
}

// Each call is made twice with lists that have more memory behind their length, and what the first call answered is written over ahead of the second.
func TestTermsWriteIntoNoArgument(t *testing.T) {
	everyTerm(9, 400, func(d drawer, wide, vars int, u []impl.Node) {
		kind, _ := impl.KindOf(wide, vars, u)
		behind := []impl.Node{{Op: impl.OpFlip}, {Op: impl.OpNo}, {Op: 99, N: 99}, {Op: impl.OpVar}, {Op: impl.OpYes}, {Op: impl.OpAdd}}
		a, b := guarded(u, behind...), guarded(d.term(wide, vars, kind, 1+d.Intn(4)), behind...)
		var by [][]impl.Node
		for range vars {
			by = append(by, guarded(d.term(wide, vars, 1, 1+d.Intn(3)), behind...))
		}
		by = guarded(by, behind, a)
		s := guarded(d.state(wide, vars), 1, math.MaxUint64)
		op := []int{impl.OpAdd, impl.OpBoth}[kind-1]
		turn := []int{impl.OpFlip, impl.OpNo}[kind-1]
		calls := map[string]func() ([]impl.Node, bool){
			"JoinTerms": func() ([]impl.Node, bool) { return impl.JoinTerms(wide, vars, op, a, b) },
			"same two":  func() ([]impl.Node, bool) { return impl.JoinTerms(wide, vars, op, b, b) },
			"TurnTerm":  func() ([]impl.Node, bool) { return impl.TurnTerm(wide, vars, turn, a) },
			"PutAll":    func() ([]impl.Node, bool) { return impl.PutAll(wide, vars, a, by) },
			"FoldTerm":  func() ([]impl.Node, bool) { return impl.FoldTerm(wide, vars, a) },
		}
		args := func() []any {
			out := []any{slices.Clone(a[:cap(a)]), slices.Clone(b[:cap(b)]), slices.Clone(s[:cap(s)])}
			for _, l := range by[:cap(by)] {
				out = append(out, slices.Clone(l[:cap(l)]))
			}
			return out
		}
		before := args()
		for name, call := range calls {
			first, ok := call()
			kept := slices.Clone(first)
			spent(first)
			second, ok2 := call()
			if ok != ok2 || !sameNodes(kept, second) {
				t.Fatalf("%s: %v, %v; then %v, %v", name, kept, ok, second, ok2)
			}
		}
		n, _ := impl.ValueOf(wide, a, s)
		list, _ := impl.VarsIn(wide, vars, a)
		if got, ok := impl.KindOf(wide, vars, a); got != kind || !ok || n != worth(wide, u, s) || !impl.GoodTerm(wide, vars, a) {
			t.Errorf("%v with more behind: kind %d, value %d, variables %v", a, got, n, list)
		}
		if !reflect.DeepEqual(before, args()) {
			t.Fatalf("an argument is written into: %v, then %v", before, args())
		}
	})
}

// What lies behind a list's length would make these lists good, or not.
func TestTermsEndAtTheirLength(t *testing.T) {
	whole := nodes(impl.OpVar, 0, impl.OpVar, 1, impl.OpAdd, 0, impl.OpNo, 0)
	for length, want := range []bool{false, true, false, true, false} {
		if impl.GoodTerm(4, 2, whole[:length]) != want {
			t.Error("length", length)
		}
	}
	words := []uint64{1, 2, 16}
	if n, ok := impl.ValueOf(4, whole[:3], words[:2]); n != 3 || !ok {
		t.Error(n, ok)
	}
	if n, ok := impl.ValueOf(4, whole[:3], words[:1]); n != 0 || ok {
		t.Error("a variable behind the state's length", n, ok)
	}
}
