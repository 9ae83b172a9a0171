package tests

import (
	"math"
	"reflect"
	"slices"
	"testing"

	"loop.example/g00649/impl"
)

var (
	plainNumberOps = []int{impl.OpAdd, impl.OpSub, impl.OpMul, impl.OpAnd, impl.OpOr, impl.OpXor}
	roughOps       = []int{impl.OpDiv, impl.OpRem, impl.OpLeft, impl.OpRight}
	badLaidWides   = append([]int{5, 6, 8, 63, 64}, badWides...)
)

// plainTerm draws a good plain term of at most room nodes.
func (d drawer) plainTerm(wide int, vars int, kind int, room int) []impl.Node {
	t := d.term(wide, vars, kind, room)
	for k := range t {
		if slices.Contains(roughOps, t[k].Op) {
			t[k].Op = d.of(plainNumberOps)
		}
	}
	return t
}

func everyPlainTerm(seed int64, count int, f func(d drawer, wide, vars int, t []impl.Node)) {
	d := newDrawer(seed)
	for k := range count {
		wide := 1 + k/2%impl.MaxLaid
		vars := 1 + d.Intn(impl.MaxVars)
		room := 1 + d.Intn(d.of([]int{4, 12, impl.MaxNodes}))
		f(d, wide, vars, d.plainTerm(wide, vars, 1+k%2, room))
	}
}

// grower lays gates by the document's words, behind what is laid so far.
type grower struct {
	wide int
	c    impl.Circuit
}

func (g *grower) one(kind int, a int, b int) int {
	g.c.Gates = append(g.c.Gates, impl.Gate{Kind: kind, A: a, B: b})
	return wiresOf(g.c) - 1
}

func (g *grower) add(a, b []int, carry int) []int {
	made, sum := addWant(g.c, a, b, carry)
	g.c.Gates = made
	return sum
}

func (g *grower) less(a, b []int) []int {
	made, wire := lessWant(g.c, a, b)
	g.c.Gates = made
	return []int{wire}
}

func (g *grower) eq(a, b []int) []int {
	made, wire := eqWant(g.c, a, b)
	g.c.Gates = made
	return []int{wire}
}

func (g *grower) mul(a, b []int) []int {
	sum := make([]int, g.wide)
	for k := range sum {
		sum[k] = g.one(impl.GtBit, 0, 0)
	}
	for k := range g.wide {
		row := make([]int, g.wide)
		for i := range row {
			if i < k {
				row[i] = g.one(impl.GtBit, 0, 0)
			} else {
				row[i] = g.one(impl.GtAnd, a[i-k], b[k])
			}
		}
		sum = g.add(sum, row, g.one(impl.GtBit, 0, 0))
	}
	return sum
}

// leafWires are the wires of a node without parts.
func (g *grower) leafWires(n impl.Node) []int {
	var out []int
	for k := range g.wide {
		switch n.Op {
		case impl.OpVar:
			out = append(out, int(n.N)*g.wide+k)
		case impl.OpNum:
			out = append(out, g.one(impl.GtBit, int(n.N/(1<<k)%2), 0))
		}
	}
	if n.Op == impl.OpYes {
		out = append(out, g.one(impl.GtBit, int(n.N), 0))
	}
	return out
}

func (g *grower) bitwise(op int, a, b []int) []int {
	kind := map[int]int{
		impl.OpAnd: impl.GtAnd, impl.OpBoth: impl.GtAnd, impl.OpOr: impl.GtOr, impl.OpEither: impl.GtOr, impl.OpXor: impl.GtXor,
	}[op]
	var out []int
	for k := range a {
		if len(b) == 0 {
			out = append(out, g.one(impl.GtNot, a[k], 0))
		} else {
			out = append(out, g.one(kind, a[k], b[k]))
		}
	}
	return out
}

func (g *grower) wires(t []impl.Node) []int {
	root := t[len(t)-1]
	parts := splitTerm(t)
	if len(parts) == 0 {
		return g.leafWires(root)
	}
	a := g.wires(parts[0])
	if len(parts) == 1 {
		return g.bitwise(root.Op, a, nil)
	}
	b := g.wires(parts[1])
	switch root.Op {
	case impl.OpAdd:
		return g.add(a, b, g.one(impl.GtBit, 0, 0))
	case impl.OpSub:
		turned := g.bitwise(impl.OpFlip, b, nil)
		return g.add(a, turned, g.one(impl.GtBit, 1, 0))
	case impl.OpMul:
		return g.mul(a, b)
	case impl.OpEq:
		return g.eq(a, b)
	case impl.OpLess:
		return g.less(a, b)
	case impl.OpLessS:
		a, b = slices.Clone(a), slices.Clone(b)
		a[g.wide-1] = g.one(impl.GtNot, a[g.wide-1], 0)
		b[g.wide-1] = g.one(impl.GtNot, b[g.wide-1], 0)
		return g.less(a, b)
	}
	return g.bitwise(root.Op, a, b)
}

// laidWant is the circuit of a good plain term, also where it has too many gates.
func laidWant(wide int, vars int, t []impl.Node) impl.Circuit {
	g := &grower{wide: wide, c: impl.Circuit{Ins: wide * vars}}
	g.c.Outs = g.wires(t)
	return g.c
}

// bitsWant are the bits of a state by whole numbers.
func bitsWant(wide int, state []uint64) []bool {
	var out []bool
	for _, word := range state {
		for k := range wide {
			out = append(out, whole(word).Bit(k) == 1)
		}
	}
	return out
}

func everyWordOf(wide int, count int, f func(state []uint64)) {
	if count == 0 {
		f(nil)
		return
	}
	everyWordOf(wide, count-1, func(state []uint64) {
		for _, word := range wordsOf(wide) {
			f(append(slices.Clone(state), word))
		}
	})
}

func TestLaidConstants(t *testing.T) {
	if impl.MaxLaid != 4 {
		t.Error("MaxLaid", impl.MaxLaid)
	}
}

func TestBitsByHand(t *testing.T) {
	const o, x = false, true
	for _, row := range []struct {
		wide  int
		state []uint64
		bits  []bool
	}{
		{1, []uint64{0}, []bool{o}},
		{1, []uint64{1, 0, 0, 1}, []bool{x, o, o, x}},
		{2, []uint64{1}, []bool{x, o}},
		{2, []uint64{2, 1}, []bool{o, x, x, o}},
		{3, []uint64{4, 3, 1}, []bool{o, o, x, x, x, o, x, o, o}},
		{4, []uint64{8}, []bool{o, o, o, x}},
		{4, []uint64{13, 0, 2, 15}, []bool{x, o, x, x, o, o, o, o, o, x, o, o, x, x, x, x}},
	} {
		if bits, ok := impl.BitsOf(row.wide, row.state); !ok || !slices.Equal(bits, row.bits) {
			t.Errorf("BitsOf(%d, %v): %v, %v", row.wide, row.state, bits, ok)
		}
		if state, ok := impl.StateFrom(row.wide, row.bits); !ok || !slices.Equal(state, row.state) {
			t.Errorf("StateFrom(%d, %v): %v, %v", row.wide, row.bits, state, ok)
		}
	}
}

// All states of up to 65536 of one length, there and back.
func TestStatesComeBackFromTheirBits(t *testing.T) {
	for wide := 1; wide <= impl.MaxLaid; wide++ {
		for count := 1; count <= impl.MaxVars; count++ {
			everyWordOf(wide, count, func(state []uint64) {
				bits, ok := impl.BitsOf(wide, state)
				if !ok || !slices.Equal(bits, bitsWant(wide, state)) {
					t.Fatalf("BitsOf(%d, %v): %v, %v", wide, state, bits, ok)
				}
				back, ok := impl.StateFrom(wide, bits)
				if !ok || !slices.Equal(back, state) {
					t.Fatalf("StateFrom(%d, %v): %v, %v", wide, bits, back, ok)
				}
			})
		}
	}
}

func TestBitsComeBackFromTheirState(t *testing.T) {
	d := newDrawer(50)
	for wide := 1; wide <= impl.MaxLaid; wide++ {
		for count := 1; count <= impl.MaxVars; count++ {
			for range 100 {
				bits := d.bits(wide * count)
				state, ok := impl.StateFrom(wide, bits)
				if !ok || len(state) != count {
					t.Fatalf("StateFrom(%d, %v): %v, %v", wide, bits, state, ok)
				}
				if back, ok := impl.BitsOf(wide, state); !ok || !slices.Equal(back, bits) {
					t.Fatalf("BitsOf(%d, %v): %v, %v", wide, state, back, ok)
				}
			}
		}
	}
}

func TestBitsOfAtTheLimits(t *testing.T) {
	for wide := 1; wide <= impl.MaxLaid; wide++ {
		for count := range 7 {
			state := slices.Repeat([]uint64{greatest(wide)}, count)
			bits, ok := impl.BitsOf(wide, state)
			if want := count >= 1 && count <= impl.MaxVars; ok != want || want && len(bits) != wide*count || !want && len(bits) != 0 {
				t.Errorf("BitsOf(%d, %v): %v, %v", wide, state, bits, ok)
			}
			for place := range state {
				for _, bad := range []uint64{greatest(wide) + 1, greatest(wide) + 2, 1 << 32, 1 << 63, math.MaxUint64} {
					state[place] = bad
					if bits, ok := impl.BitsOf(wide, state); ok || len(bits) != 0 {
						t.Errorf("BitsOf(%d, %v): %v, %v", wide, state, bits, ok)
					}
				}
				state[place] = 0
			}
		}
		if bits, ok := impl.BitsOf(wide, make([]uint64, 5000)); ok || len(bits) != 0 {
			t.Errorf("BitsOf(%d, 5000 words): %v", wide, ok)
		}
	}
	for _, wide := range badLaidWides {
		for count := range 6 {
			if bits, ok := impl.BitsOf(wide, make([]uint64, count)); ok || len(bits) != 0 {
				t.Errorf("BitsOf(%d, %d words): %v, %v", wide, count, bits, ok)
			}
		}
	}
}

func TestStateFromAtTheLimits(t *testing.T) {
	for wide := 1; wide <= impl.MaxLaid; wide++ {
		for count := range 40 {
			state, ok := impl.StateFrom(wide, slices.Repeat([]bool{true}, count))
			var want []uint64
			if count%wide == 0 && count/wide <= impl.MaxVars {
				want = slices.Repeat([]uint64{greatest(wide)}, count/wide)
			}
			if ok != (len(want) > 0) || !slices.Equal(state, want) {
				t.Errorf("StateFrom(%d, %d bits): %v, %v", wide, count, state, ok)
			}
		}
		if state, ok := impl.StateFrom(wide, make([]bool, 6000)); ok || len(state) != 0 {
			t.Errorf("StateFrom(%d, 6000 bits): %v", wide, ok)
		}
	}
	for _, wide := range badLaidWides {
		for _, count := range []int{0, 1, 2, 4, 5, 6, 8, 10, 16, 20, 63, 64, 65, 128, 256} {
			if state, ok := impl.StateFrom(wide, make([]bool, count)); ok || len(state) != 0 {
				t.Errorf("StateFrom(%d, %d bits): %v, %v", wide, count, state, ok)
			}
		}
	}
}

// opTerm is the term of an op over parts of its kind that name variables or say yes.
func opTerm(op int) []impl.Node {
	takes, of, _ := partsTaken(op)
	var t []impl.Node
	for k := range takes {
		if of == 1 {
			t = append(t, nodes(impl.OpVar, k)...)
		} else {
			t = append(t, nodes(impl.OpYes, k)...)
		}
	}
	return append(t, impl.Node{Op: op})
}

func TestIsPlainOfEachOp(t *testing.T) {
	for op := 1; op <= 20; op++ {
		want := !slices.Contains(roughOps, op)
		_, _, kind := partsTaken(op)
		terms := [][]impl.Node{opTerm(op), append(opTerm(op), impl.Node{Op: []int{impl.OpFlip, impl.OpNo}[kind-1]})}
		join := impl.Node{Op: []int{impl.OpXor, impl.OpEither}[kind-1]}
		other := opTerm([]int{impl.OpSub, impl.OpEq}[kind-1])
		terms = append(terms, append(append(opTerm(op), other...), join), append(append(slices.Clone(other), opTerm(op)...), join))
		if kind == 1 {
			terms = append(terms,
				append(opTerm(op), nodes(impl.OpNum, 1, impl.OpLessS, 0, impl.OpNo, 0)...),
				append(nodes(impl.OpYes, 1, impl.OpNum, 1), append(opTerm(op), nodes(impl.OpEq, 0, impl.OpBoth, 0)...)...))
		}
		for _, u := range terms {
			for wide := 1; wide <= impl.MaxWide; wide++ {
				for vars := 2; vars <= impl.MaxVars; vars++ {
					if is, ok := impl.IsPlain(wide, vars, u); is != want || !ok {
						t.Fatalf("IsPlain(%d, %d, %v): %v, %v", wide, vars, u, is, ok)
					}
				}
			}
			if !want {
				checkNotLaid(t, "not plain", 4, 2, u)
			}
		}
	}
}

func TestIsPlainOfDrawnTerms(t *testing.T) {
	count := map[bool]int{}
	everyTerm(51, 600, func(d drawer, wide, vars int, u []impl.Node) {
		want := !slices.ContainsFunc(u, func(n impl.Node) bool { return slices.Contains(roughOps, n.Op) })
		count[want]++
		if is, ok := impl.IsPlain(wide, vars, u); is != want || !ok {
			t.Fatalf("IsPlain(%d, %d, %v): %v, %v", wide, vars, u, is, ok)
		}
	})
	if count[true] < 50 || count[false] < 50 {
		t.Error("too few of a sort are drawn", count)
	}
}

// checkNotLaid asks for the zero answer of what lays a term out.
func checkNotLaid(t *testing.T, name string, wide int, vars int, u []impl.Node) {
	t.Helper()
	if c, ok := impl.GatesFor(wide, vars, u); ok || !emptyCircuit(c) {
		t.Errorf("%s: GatesFor(%d, %d, %v): %v, %v", name, wide, vars, u, c, ok)
	}
	if n, ok := impl.GateCount(wide, vars, u); n != 0 || ok {
		t.Errorf("%s: GateCount(%d, %d, %v): %d, %v", name, wide, vars, u, n, ok)
	}
	if n, ok := impl.RunLaid(wide, u, make([]uint64, min(max(vars, 0), 70))); n != 0 || ok {
		t.Errorf("%s: RunLaid(%d, %v) of %d words: %d, %v", name, wide, u, vars, n, ok)
	}
}

// checkLaid holds what is laid out against the document's gates.
func checkLaid(t *testing.T, wide int, vars int, u []impl.Node, want impl.Circuit) {
	t.Helper()
	c, ok := impl.GatesFor(wide, vars, u)
	if !ok || !sameCircuit(c, want) {
		t.Fatalf("GatesFor(%d, %d, %v): %v, %v, not %v", wide, vars, u, c, ok, want)
	}
	if n, ok := impl.GateCount(wide, vars, u); n != len(want.Gates) || !ok {
		t.Fatalf("GateCount(%d, %d, %v): %d, %v", wide, vars, u, n, ok)
	}
}

func TestGatesForLeavesByHand(t *testing.T) {
	for _, row := range []struct {
		wide, vars int
		u          []impl.Node
		gates      []impl.Gate
		outs       []int
	}{
		{1, 1, nodes(impl.OpVar, 0), nil, []int{0}},
		{1, 4, nodes(impl.OpVar, 3), nil, []int{3}},
		{2, 3, nodes(impl.OpVar, 1), nil, []int{2, 3}},
		{4, 4, nodes(impl.OpVar, 0), nil, []int{0, 1, 2, 3}},
		{4, 4, nodes(impl.OpVar, 3), nil, []int{12, 13, 14, 15}},
		{1, 1, nodes(impl.OpNum, 1), gates(impl.GtBit, 1, 0), []int{1}},
		{3, 2, nodes(impl.OpNum, 6), gates(impl.GtBit, 0, 0, impl.GtBit, 1, 0, impl.GtBit, 1, 0), []int{6, 7, 8}},
		{4, 4, nodes(impl.OpNum, 1), gates(impl.GtBit, 1, 0, impl.GtBit, 0, 0, impl.GtBit, 0, 0, impl.GtBit, 0, 0), []int{16, 17, 18, 19}},
		{1, 2, nodes(impl.OpYes, 0), gates(impl.GtBit, 0, 0), []int{2}},
		{4, 1, nodes(impl.OpYes, 1), gates(impl.GtBit, 1, 0), []int{4}},
	} {
		checkLaid(t, row.wide, row.vars, row.u, impl.Circuit{Ins: row.wide * row.vars, Gates: row.gates, Outs: row.outs})
	}
}

// handCases are of wide 2 and two variables: the first one has the wires 0 and 1, the second one 2 and 3.
var handCases = []struct {
	u     []impl.Node
	gates []impl.Gate
	outs  []int
}{
	{nodes(impl.OpVar, 1, impl.OpFlip, 0), gates(impl.GtNot, 2, 0, impl.GtNot, 3, 0), []int{4, 5}},
	{nodes(impl.OpYes, 1, impl.OpNo, 0), gates(impl.GtBit, 1, 0, impl.GtNot, 4, 0), []int{5}},
	{nodes(impl.OpVar, 0, impl.OpVar, 1, impl.OpAnd, 0), gates(impl.GtAnd, 0, 2, impl.GtAnd, 1, 3), []int{4, 5}},
	{nodes(impl.OpVar, 0, impl.OpVar, 1, impl.OpOr, 0), gates(impl.GtOr, 0, 2, impl.GtOr, 1, 3), []int{4, 5}},
	{nodes(impl.OpVar, 1, impl.OpVar, 0, impl.OpXor, 0), gates(impl.GtXor, 2, 0, impl.GtXor, 3, 1), []int{4, 5}},
	{nodes(impl.OpYes, 0, impl.OpYes, 1, impl.OpBoth, 0), gates(impl.GtBit, 0, 0, impl.GtBit, 1, 0, impl.GtAnd, 4, 5), []int{6}},
	{nodes(impl.OpYes, 0, impl.OpYes, 1, impl.OpEither, 0), gates(impl.GtBit, 0, 0, impl.GtBit, 1, 0, impl.GtOr, 4, 5), []int{6}},
	{nodes(impl.OpVar, 0, impl.OpVar, 1, impl.OpAdd, 0), gates(
		impl.GtBit, 0, 0,
		impl.GtXor, 0, 2, impl.GtXor, 5, 4, impl.GtAnd, 0, 2, impl.GtAnd, 5, 4, impl.GtOr, 7, 8,
		impl.GtXor, 1, 3, impl.GtXor, 10, 9, impl.GtAnd, 1, 3, impl.GtAnd, 10, 9, impl.GtOr, 12, 13), []int{6, 11}},
	{nodes(impl.OpVar, 0, impl.OpVar, 1, impl.OpSub, 0), gates(
		impl.GtNot, 2, 0, impl.GtNot, 3, 0, impl.GtBit, 1, 0,
		impl.GtXor, 0, 4, impl.GtXor, 7, 6, impl.GtAnd, 0, 4, impl.GtAnd, 7, 6, impl.GtOr, 9, 10,
		impl.GtXor, 1, 5, impl.GtXor, 12, 11, impl.GtAnd, 1, 5, impl.GtAnd, 12, 11, impl.GtOr, 14, 15), []int{8, 13}},
	{nodes(impl.OpVar, 0, impl.OpVar, 1, impl.OpMul, 0), gates(
		impl.GtBit, 0, 0, impl.GtBit, 0, 0,
		impl.GtAnd, 0, 2, impl.GtAnd, 1, 2, impl.GtBit, 0, 0,
		impl.GtXor, 4, 6, impl.GtXor, 9, 8, impl.GtAnd, 4, 6, impl.GtAnd, 9, 8, impl.GtOr, 11, 12,
		impl.GtXor, 5, 7, impl.GtXor, 14, 13, impl.GtAnd, 5, 7, impl.GtAnd, 14, 13, impl.GtOr, 16, 17,
		impl.GtBit, 0, 0, impl.GtAnd, 0, 3, impl.GtBit, 0, 0,
		impl.GtXor, 10, 19, impl.GtXor, 22, 21, impl.GtAnd, 10, 19, impl.GtAnd, 22, 21, impl.GtOr, 24, 25,
		impl.GtXor, 15, 20, impl.GtXor, 27, 26, impl.GtAnd, 15, 20, impl.GtAnd, 27, 26, impl.GtOr, 29, 30), []int{23, 28}},
	{nodes(impl.OpVar, 0, impl.OpVar, 1, impl.OpEq, 0), gates(
		impl.GtBit, 1, 0,
		impl.GtXor, 0, 2, impl.GtNot, 5, 0, impl.GtAnd, 6, 4,
		impl.GtXor, 1, 3, impl.GtNot, 8, 0, impl.GtAnd, 9, 7), []int{10}},
	{nodes(impl.OpVar, 0, impl.OpVar, 1, impl.OpLess, 0), gates(
		impl.GtBit, 0, 0,
		impl.GtXor, 0, 2, impl.GtNot, 5, 0, impl.GtAnd, 6, 4, impl.GtNot, 0, 0, impl.GtAnd, 8, 2, impl.GtOr, 7, 9,
		impl.GtXor, 1, 3, impl.GtNot, 11, 0, impl.GtAnd, 12, 10, impl.GtNot, 1, 0, impl.GtAnd, 14, 3, impl.GtOr, 13, 15), []int{16}},
	{nodes(impl.OpVar, 0, impl.OpVar, 1, impl.OpLessS, 0), gates(
		impl.GtNot, 1, 0, impl.GtNot, 3, 0, impl.GtBit, 0, 0,
		impl.GtXor, 0, 2, impl.GtNot, 7, 0, impl.GtAnd, 8, 6, impl.GtNot, 0, 0, impl.GtAnd, 10, 2, impl.GtOr, 9, 11,
		impl.GtXor, 4, 5, impl.GtNot, 13, 0, impl.GtAnd, 14, 12, impl.GtNot, 4, 0, impl.GtAnd, 16, 5, impl.GtOr, 15, 17), []int{18}},
	{nodes(impl.OpNum, 2, impl.OpVar, 1, impl.OpFlip, 0, impl.OpAnd, 0), gates(
		impl.GtBit, 0, 0, impl.GtBit, 1, 0, impl.GtNot, 2, 0, impl.GtNot, 3, 0, impl.GtAnd, 4, 6, impl.GtAnd, 5, 7), []int{8, 9}},
	{nodes(impl.OpYes, 1, impl.OpVar, 0, impl.OpNum, 3, impl.OpEq, 0, impl.OpNo, 0, impl.OpEither, 0), gates(
		impl.GtBit, 1, 0, impl.GtBit, 1, 0, impl.GtBit, 1, 0, impl.GtBit, 1, 0,
		impl.GtXor, 0, 5, impl.GtNot, 8, 0, impl.GtAnd, 9, 7, impl.GtXor, 1, 6, impl.GtNot, 11, 0, impl.GtAnd, 12, 10,
		impl.GtNot, 13, 0, impl.GtOr, 4, 14), []int{15}},
}

func TestGatesForByHand(t *testing.T) {
	for _, one := range handCases {
		want := impl.Circuit{Ins: 4, Gates: one.gates, Outs: one.outs}
		checkLaid(t, 2, 2, one.u, want)
		if !sameCircuit(laidWant(2, 2, one.u), want) {
			t.Errorf("the tests' own laying of %v differs: %v", one.u, laidWant(2, 2, one.u))
		}
	}
}

func TestGatesForOfOneBitByHand(t *testing.T) {
	a, b := nodes(impl.OpVar, 0), nodes(impl.OpVar, 1)
	for op, want := range map[int]impl.Circuit{
		impl.OpMul: {Ins: 2, Outs: []int{6}, Gates: gates(
			impl.GtBit, 0, 0, impl.GtAnd, 0, 1, impl.GtBit, 0, 0,
			impl.GtXor, 2, 3, impl.GtXor, 5, 4, impl.GtAnd, 2, 3, impl.GtAnd, 5, 4, impl.GtOr, 7, 8)},
		impl.OpSub: {Ins: 2, Outs: []int{5}, Gates: gates(
			impl.GtNot, 1, 0, impl.GtBit, 1, 0,
			impl.GtXor, 0, 2, impl.GtXor, 4, 3, impl.GtAnd, 0, 2, impl.GtAnd, 4, 3, impl.GtOr, 6, 7)},
		impl.OpLessS: {Ins: 2, Outs: []int{10}, Gates: gates(
			impl.GtNot, 0, 0, impl.GtNot, 1, 0, impl.GtBit, 0, 0,
			impl.GtXor, 2, 3, impl.GtNot, 5, 0, impl.GtAnd, 6, 4, impl.GtNot, 2, 0, impl.GtAnd, 8, 3, impl.GtOr, 7, 9)},
	} {
		checkLaid(t, 1, 2, slices.Concat(a, b, []impl.Node{{Op: op}}), want)
	}
}

// What each op by itself costs is told by the document's words: five gates a place of a sum, and so on.
func TestGateCountOfEachOp(t *testing.T) {
	for wide := 1; wide <= impl.MaxLaid; wide++ {
		w := wide
		for op, want := range map[int]int{
			impl.OpVar: 0, impl.OpNum: w, impl.OpYes: 1, impl.OpFlip: w, impl.OpNo: 1 + 1,
			impl.OpAnd: w, impl.OpOr: w, impl.OpXor: w, impl.OpBoth: 2 + 1, impl.OpEither: 2 + 1,
			impl.OpAdd: 1 + 5*w, impl.OpSub: w + 1 + 5*w, impl.OpMul: w + w*(w+1+5*w),
			impl.OpEq: 1 + 3*w, impl.OpLess: 1 + 6*w, impl.OpLessS: 2 + 1 + 6*w,
		} {
			if n, ok := impl.GateCount(wide, 2, opTerm(op)); n != want || !ok {
				t.Errorf("GateCount of op %d at wide %d: %d, %v, not %d", op, wide, n, ok, want)
			}
		}
	}
}

// Each op at each wide, with each pair of words, gate by gate and by what comes out.
func TestEachOpLaidAtAllWords(t *testing.T) {
	for wide := 1; wide <= impl.MaxLaid; wide++ {
		for op := 1; op <= 20; op++ {
			if slices.Contains(roughOps, op) {
				continue
			}
			u := opTerm(op)
			checkLaid(t, wide, 2, u, laidWant(wide, 2, u))
			everyWordOf(wide, 2, func(state []uint64) {
				if n, ok := impl.RunLaid(wide, u, state); n != worth(wide, u, state) || !ok {
					t.Fatalf("RunLaid(%d, %v, %v): %d, %v", wide, u, state, n, ok)
				}
			})
		}
	}
}

func checkCarries(t *testing.T, wide int, u []impl.Node, state []uint64) {
	t.Helper()
	want := worth(wide, u, state)
	if n, ok := impl.ValueOf(wide, u, state); n != want || !ok {
		t.Fatalf("ValueOf(%d, %v, %v): %d, %v", wide, u, state, n, ok)
	}
	if n, ok := impl.RunLaid(wide, u, state); n != want || !ok {
		t.Fatalf("RunLaid(%d, %v, %v): %d, %v, not %d", wide, u, state, n, ok, want)
	}
	c, _ := impl.GatesFor(wide, len(state), u)
	bits, _ := impl.BitsOf(wide, state)
	outs, ok := impl.RunCircuit(c, bits)
	places := make([]int, len(outs))
	for k := range places {
		places[k] = k
	}
	if n := numberAt(outs, places); !ok || n.Uint64() != want {
		t.Fatalf("GatesFor(%d, %d, %v) carries %v, %v at %v", wide, len(state), u, n, ok, state)
	}
}

// Promise 5, and the gates in their order.
func TestLaidTermsCarryWhatTheyComeTo(t *testing.T) {
	count := map[bool]int{}
	everyPlainTerm(52, 1600, func(d drawer, wide, vars int, u []impl.Node) {
		want := laidWant(wide, vars, u)
		small := len(want.Gates) <= impl.MaxGates
		count[small]++
		if !small {
			checkNotLaid(t, "too many gates", wide, vars, u)
			return
		}
		checkLaid(t, wide, vars, u, want)
		kind, _ := impl.KindOf(wide, vars, u)
		if !goodWant(want) || len(want.Outs) != []int{wide, 1}[kind-1] {
			t.Fatalf("Outs of GatesFor(%d, %d, %v): %v", wide, vars, u, want.Outs)
		}
		for range 8 {
			checkCarries(t, wide, u, d.state(wide, vars))
		}
	})
	if count[true] < 300 || count[false] < 50 {
		t.Error("too few of a sort are drawn", count)
	}
}

// heap is a term of so many of each op, all over variable 0: first numbers, then what makes a condition of them.
func heap(muls, adds, flips int, behind ...int) []impl.Node {
	t := nodes(impl.OpVar, 0)
	for range muls {
		t = append(t, nodes(impl.OpVar, 0, impl.OpMul, 0)...)
	}
	for range adds {
		t = append(t, nodes(impl.OpVar, 0, impl.OpAdd, 0)...)
	}
	for range flips {
		t = append(t, impl.Node{Op: impl.OpFlip})
	}
	for _, op := range behind {
		if op == impl.OpEq {
			t = append(t, nodes(impl.OpVar, 0)...)
		}
		t = append(t, impl.Node{Op: op})
	}
	return t
}

func noes(count int) []int {
	return append([]int{impl.OpEq}, slices.Repeat([]int{impl.OpNo}, count)...)
}

func TestLaidTermsAtTheGateLimit(t *testing.T) {
	for _, one := range []struct {
		wide  int
		u     []impl.Node
		gates int
	}{
		{4, heap(2, 4, 1), 296},
		{4, heap(2, 4, 2), 300},
		{4, heap(2, 1, 18), 301},
		{4, heap(2, 2, 13), 302},
		{4, heap(2, 4, 3), 304},
		{4, heap(2, 3, 0, noes(15)...), 299},
		{4, heap(2, 3, 0, noes(16)...), 300},
		{4, heap(2, 3, 0, noes(17)...), 301},
		{3, heap(4, 3, 0, noes(2)...), 300},
		{3, heap(4, 3, 0, noes(3)...), 301},
		{2, heap(10, 1, 0, noes(2)...), 300},
		{2, heap(10, 1, 0, noes(3)...), 301},
		{4, heap(23, 0, 0), 23 * 104},
		{1, heap(22, 0, 1, noes(0)...), 22*8 + 1 + 4},
	} {
		for vars := 1; vars <= impl.MaxVars; vars++ {
			if !impl.GoodTerm(one.wide, vars, one.u) {
				t.Fatalf("%v is not good", one.u)
			}
			if is, ok := impl.IsPlain(one.wide, vars, one.u); !is || !ok {
				t.Errorf("IsPlain(%d, %d, %v): %v, %v", one.wide, vars, one.u, is, ok)
			}
			want := laidWant(one.wide, vars, one.u)
			if len(want.Gates) != one.gates {
				t.Fatalf("%d gates, not %d", len(want.Gates), one.gates)
			}
			if one.gates > impl.MaxGates {
				checkNotLaid(t, "too many gates", one.wide, vars, one.u)
				continue
			}
			checkLaid(t, one.wide, vars, one.u, want)
			for _, word := range wordsOf(one.wide) {
				checkCarries(t, one.wide, one.u, slices.Repeat([]uint64{word}, vars))
			}
		}
	}
}

func TestLaidTermsThatAreNotGood(t *testing.T) {
	for name, u := range notGood {
		if is, ok := impl.IsPlain(4, 2, u); is || ok {
			t.Errorf("%s: plain %v, %v", name, is, ok)
		}
		checkNotLaid(t, name, 4, 2, u)
	}
	for _, u := range [][]impl.Node{nodes(impl.OpVar, 0), nodes(impl.OpNum, 0), nodes(impl.OpYes, 1), opTerm(impl.OpDiv)} {
		for _, wide := range badWides {
			if is, ok := impl.IsPlain(wide, 2, u); is || ok {
				t.Errorf("IsPlain(%d, 2, %v): %v, %v", wide, u, is, ok)
			}
		}
		for _, wide := range badLaidWides {
			checkNotLaid(t, "bad wide", wide, 2, u)
		}
		for _, vars := range badVars {
			if is, ok := impl.IsPlain(4, vars, u); is || ok {
				t.Errorf("IsPlain(4, %d, %v): %v, %v", vars, u, is, ok)
			}
			checkNotLaid(t, "bad vars", 4, vars, u)
		}
	}
}

func TestLaidTermsByTheWide(t *testing.T) {
	u := nodes(impl.OpVar, 0, impl.OpVar, 1, impl.OpLessS, 0)
	for wide := -1; wide <= impl.MaxWide+1; wide++ {
		if is, ok := impl.IsPlain(wide, 2, u); is != (wide >= 1 && wide <= impl.MaxWide) || ok != is {
			t.Errorf("IsPlain at wide %d: %v, %v", wide, is, ok)
		}
		if wide < 1 || wide > impl.MaxLaid {
			checkNotLaid(t, "bad wide", wide, 2, u)
			continue
		}
		checkLaid(t, wide, 2, u, laidWant(wide, 2, u))
	}
}

func TestRunLaidByTheState(t *testing.T) {
	for _, u := range [][]impl.Node{nodes(impl.OpNum, 1), nodes(impl.OpYes, 1), nodes(impl.OpVar, 0)} {
		for _, s := range [][]uint64{nil, {}, {1, 1, 1, 1, 1}, make([]uint64, 4000), {16}, {1, 16}, {1, 1, 1, math.MaxUint64}, {1 << 63, 0}} {
			if n, ok := impl.RunLaid(4, u, s); n != 0 || ok {
				t.Errorf("RunLaid(4, %v, %v): %d, %v", u, s, n, ok)
			}
		}
		for length := 1; length <= impl.MaxVars; length++ {
			if n, ok := impl.RunLaid(4, u, []uint64{1, 15, 15, 15}[:length]); n != 1 || !ok {
				t.Errorf("RunLaid(4, %v, ..) with %d words: %d, %v", u, length, n, ok)
			}
		}
	}
	for v := range 6 {
		for length := range 7 {
			n, ok := impl.RunLaid(3, nodes(impl.OpVar, v), []uint64{7, 1, 4, 2, 5, 3}[:min(length, 6)])
			want := v < length && length <= impl.MaxVars
			if ok != want || !want && n != 0 || want && n != []uint64{7, 1, 4, 2}[v] {
				t.Errorf("RunLaid of variable %d with %d words: %d, %v", v, length, n, ok)
			}
		}
	}
}

// laidAnswers makes each call of the chapter and writes what it answers over; told is what was answered ahead of that.
func laidAnswers(t *testing.T, wide, vars int, u []impl.Node, state []uint64, bits []bool) []any {
	apart := func(memory ...[2]uintptr) { apart(t, append(memory, span(u), span(state), span(bits))) }
	is, ok := impl.IsPlain(wide, vars, u)
	told := []any{is, ok}
	c, ok := impl.GatesFor(wide, vars, u)
	told = append(told, c.Ins, append([]impl.Gate{}, c.Gates...), append([]int{}, c.Outs...), ok)
	apart(ruined(c.Gates, impl.Gate{Kind: -7, A: -7, B: -7}), ruined(c.Outs, -77))
	b, ok := impl.BitsOf(wide, state)
	told = append(told, append([]bool{}, b...), ok)
	apart(ruined(b, true))
	s, ok := impl.StateFrom(wide, bits)
	told = append(told, append([]uint64{}, s...), ok)
	apart(ruined(s, 77))
	n, ok := impl.RunLaid(wide, u, state)
	told = append(told, n, ok)
	count, ok := impl.GateCount(wide, vars, u)
	return append(told, count, ok)
}

// Each call is made twice with lists that have more memory behind their length, and what the first one answered is written over ahead of the second.
func TestLaidTermsWriteIntoNoArgument(t *testing.T) {
	everyPlainTerm(53, 400, func(d drawer, wide, vars int, u []impl.Node) {
		if d.Intn(4) == 0 {
			u = spoiled(d, u)
		}
		behind := nodes(impl.OpFlip, 0, impl.OpNo, 0, 99, 99, impl.OpVar, 0, impl.OpYes, 0, impl.OpAdd, 0, impl.OpDiv, 0)
		state, bits := d.state(wide, vars), d.bits(wide*vars)
		longTerm, longState := guarded(u, behind...), guarded(state, 1, math.MaxUint64, 0)
		longBits := guarded(bits, true, false, true, true, true, true, false, false)
		args := func() []any {
			return []any{slices.Clone(longTerm[:cap(longTerm)]), slices.Clone(longState[:cap(longState)]), slices.Clone(longBits[:cap(longBits)])}
		}
		before := args()
		first := laidAnswers(t, wide, vars, longTerm, longState, longBits)
		second := laidAnswers(t, wide, vars, longTerm, longState, longBits)
		third := laidAnswers(t, wide, vars, slices.Clip(slices.Clone(u)), slices.Clip(state), slices.Clip(bits))
		if !reflect.DeepEqual(first, second) || !reflect.DeepEqual(first, third) {
			t.Fatalf("%v, then %v, and without what is behind %v", first, second, third)
		}
		if !reflect.DeepEqual(before, args()) {
			t.Fatalf("an argument is written into: %v, then %v", before, args())
		}
	})
}
