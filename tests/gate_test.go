package tests

import (
	"math"
	"math/big"
	"reflect"
	"slices"
	"testing"
	"unsafe"

	"loop.example/g00649/impl"
)

var gateKinds = []int{impl.GtBit, impl.GtNot, impl.GtAnd, impl.GtOr, impl.GtXor}

// gates writes gates short: a kind, its A and its B, and so on.
func gates(triples ...int) []impl.Gate {
	var out []impl.Gate
	for k := 0; k < len(triples); k += 3 {
		out = append(out, impl.Gate{Kind: triples[k], A: triples[k+1], B: triples[k+2]})
	}
	return out
}

// noughts are so many gates that take no wire.
func noughts(count int) []impl.Gate { return slices.Repeat(gates(impl.GtBit, 0, 0), count) }

func wiresOf(c impl.Circuit) int { return c.Ins + len(c.Gates) }

// takenBy are the wires that a gate takes, by the document's list.
func takenBy(g impl.Gate) []int {
	switch g.Kind {
	case impl.GtNot:
		return []int{g.A}
	case impl.GtAnd, impl.GtOr, impl.GtXor:
		return []int{g.A, g.B}
	}
	return nil
}

// gate draws a good gate of which so many wires are ahead.
func (d drawer) gate(ahead int) impl.Gate {
	kind := d.of(gateKinds)
	if kind == impl.GtBit || ahead == 0 {
		return impl.Gate{Kind: impl.GtBit, A: d.Intn(2)}
	}
	g := impl.Gate{Kind: kind, A: d.Intn(ahead)}
	if kind != impl.GtNot {
		g.B = d.Intn(ahead)
	}
	return g
}

func (d drawer) wires(count int, c impl.Circuit) []int {
	var out []int
	for range count {
		out = append(out, d.Intn(wiresOf(c)))
	}
	return out
}

func (d drawer) bits(count int) []bool {
	var out []bool
	for range count {
		out = append(out, d.Intn(2) == 1)
	}
	return out
}

// circuit draws a good circuit of at most room gates.
func (d drawer) circuit(room int) impl.Circuit {
	c := impl.Circuit{Ins: d.Intn(impl.MaxIns + 1)}
	for range d.Intn(room + 1) {
		c.Gates = append(c.Gates, d.gate(wiresOf(c)))
	}
	if wiresOf(c) > 0 {
		c.Outs = d.wires(d.Intn(17), c)
	}
	return c
}

func everyCircuit(seed int64, count int, f func(d drawer, c impl.Circuit)) {
	d := newDrawer(seed)
	for k := range count {
		f(d, d.circuit([]int{3, 12, 40, impl.MaxGates}[k%4]))
	}
}

// everyIns goes through all ins of a few wires, and through drawn ones of more.
func everyIns(d drawer, count int, f func(ins []bool)) {
	if count > 6 {
		for range 40 {
			f(d.bits(count))
		}
		return
	}
	for n := range 1 << count {
		ins := make([]bool, count)
		for k := range ins {
			ins[k] = n>>k&1 == 1
		}
		f(ins)
	}
}

// wireWant asks from a wire back to what it is made from.
func wireWant(c impl.Circuit, ins []bool, known map[int]bool, wire int) bool {
	if wire < c.Ins {
		return ins[wire]
	}
	if is, ok := known[wire]; ok {
		return is
	}
	g := c.Gates[wire-c.Ins]
	set := 0
	for _, part := range takenBy(g) {
		if wireWant(c, ins, known, part) {
			set++
		}
	}
	is := map[int]bool{
		impl.GtBit: g.A == 1, impl.GtNot: set == 0, impl.GtAnd: set == 2, impl.GtOr: set > 0, impl.GtXor: set == 1,
	}[g.Kind]
	known[wire] = is
	return is
}

func wiresWant(c impl.Circuit, ins []bool) []bool {
	known := map[int]bool{}
	var out []bool
	for wire := range wiresOf(c) {
		out = append(out, wireWant(c, ins, known, wire))
	}
	return out
}

// coneWant adds what is taken until nothing is new.
func coneWant(c impl.Circuit, wires ...int) []int {
	in := map[int]bool{}
	for len(wires) > 0 {
		wire := wires[0]
		wires = wires[1:]
		if in[wire] {
			continue
		}
		in[wire] = true
		if wire >= c.Ins {
			wires = append(slices.Clone(wires), takenBy(c.Gates[wire-c.Ins])...)
		}
	}
	var out []int
	for wire := range in {
		out = append(out, wire)
	}
	slices.Sort(out)
	return out
}

func pruneWant(c impl.Circuit) impl.Circuit {
	kept := coneWant(c, c.Outs...)
	place := map[int]int{}
	for wire := range c.Ins {
		place[wire] = wire
	}
	out := impl.Circuit{Ins: c.Ins}
	for _, wire := range kept {
		if wire < c.Ins {
			continue
		}
		place[wire] = wiresOf(out)
		g := c.Gates[wire-c.Ins]
		if g.Kind != impl.GtBit {
			g.A = place[g.A]
		}
		if g.Kind != impl.GtBit && g.Kind != impl.GtNot {
			g.B = place[g.B]
		}
		out.Gates = append(out.Gates, g)
	}
	for _, wire := range c.Outs {
		out.Outs = append(out.Outs, place[wire])
	}
	return out
}

func sameCircuit(a impl.Circuit, b impl.Circuit) bool {
	return a.Ins == b.Ins && slices.Equal(a.Gates, b.Gates) && slices.Equal(a.Outs, b.Outs)
}

func emptyCircuit(c impl.Circuit) bool { return sameCircuit(c, impl.Circuit{}) }

func TestGateConstants(t *testing.T) {
	for k, kind := range gateKinds {
		if kind != k+1 {
			t.Errorf("kind %d is %d", k+1, kind)
		}
	}
	if impl.MaxGates != 300 || impl.MaxIns != 16 {
		t.Error("limits", impl.MaxGates, impl.MaxIns)
	}
}

func TestGoodCircuitByItsRules(t *testing.T) {
	for ins, want := range map[int]bool{-1: false, 0: true, 1: true, 15: true, 16: true, 17: false, math.MinInt: false, math.MaxInt: false} {
		if impl.GoodCircuit(impl.Circuit{Ins: ins}) != want {
			t.Errorf("Ins of %d: %v", ins, !want)
		}
	}
	for count, want := range map[int]bool{0: true, 299: true, 300: true, 301: false, 5000: false} {
		for _, ins := range []int{0, 16} {
			if impl.GoodCircuit(impl.Circuit{Ins: ins, Gates: noughts(count)}) != want {
				t.Errorf("%d gates beside Ins of %d: %v", count, ins, !want)
			}
		}
	}
	for count, want := range map[int]bool{0: true, 1: true, 15: true, 16: true, 17: false, 5000: false} {
		if impl.GoodCircuit(impl.Circuit{Ins: 1, Outs: make([]int, count)}) != want {
			t.Errorf("%d Outs that are all alike: %v", count, !want)
		}
	}
	if !impl.GoodCircuit(impl.Circuit{}) {
		t.Error("the circuit of nothing is not good")
	}
}

func TestGoodCircuitByItsOuts(t *testing.T) {
	wires := map[int]bool{-1: false, 0: true, 1: true, 2: true, 4: true, 5: false, 300: false, math.MinInt: false, math.MaxInt: false}
	for wire, want := range wires {
		for place := range 3 {
			outs := []int{4, 0, 4}
			outs[place] = wire
			if impl.GoodCircuit(impl.Circuit{Ins: 2, Gates: noughts(3), Outs: outs}) != want {
				t.Errorf("Outs %v of 5 wires: %v", outs, !want)
			}
		}
	}
	if impl.GoodCircuit(impl.Circuit{Outs: []int{0}}) {
		t.Error("an out of a circuit without wires")
	}
}

// gateCases are gates that make the wire 3, and whether they may.
var gateCases = []struct {
	g    impl.Gate
	want bool
}{
	{impl.Gate{Kind: impl.GtBit, A: -1}, false},
	{impl.Gate{Kind: impl.GtBit, A: 0}, true},
	{impl.Gate{Kind: impl.GtBit, A: 1}, true},
	{impl.Gate{Kind: impl.GtBit, A: 2}, false},
	{impl.Gate{Kind: impl.GtBit, A: 0, B: 1}, false},
	{impl.Gate{Kind: impl.GtBit, A: 1, B: 1}, false},
	{impl.Gate{Kind: impl.GtBit, A: 1, B: -1}, false},
	{impl.Gate{Kind: impl.GtNot, A: 0}, true},
	{impl.Gate{Kind: impl.GtNot, A: 1}, true},
	{impl.Gate{Kind: impl.GtNot, A: 2}, true},
	{impl.Gate{Kind: impl.GtNot, A: 3}, false},
	{impl.Gate{Kind: impl.GtNot, A: 4}, false},
	{impl.Gate{Kind: impl.GtNot, A: -1}, false},
	{impl.Gate{Kind: impl.GtNot, A: 0, B: 1}, false},
	{impl.Gate{Kind: impl.GtNot, A: 2, B: -1}, false},
	{impl.Gate{Kind: 0}, false},
	{impl.Gate{Kind: -1}, false},
	{impl.Gate{Kind: 6}, false},
	{impl.Gate{Kind: 7, A: 1, B: 1}, false},
	{impl.Gate{Kind: math.MaxInt}, false},
	{impl.Gate{Kind: math.MinInt}, false},
}

func TestGoodCircuitByItsGates(t *testing.T) {
	cases := slices.Clone(gateCases)
	for _, kind := range []int{impl.GtAnd, impl.GtOr, impl.GtXor} {
		for _, a := range []int{math.MinInt, -1, 0, 1, 2, 3, 4, 5, math.MaxInt} {
			for _, b := range []int{math.MinInt, -1, 0, 1, 2, 3, 4, 5, math.MaxInt} {
				cases = append(cases, struct {
					g    impl.Gate
					want bool
				}{impl.Gate{Kind: kind, A: a, B: b}, a >= 0 && a < 3 && b >= 0 && b < 3})
			}
		}
	}
	for _, one := range cases {
		c := impl.Circuit{Ins: 2, Gates: []impl.Gate{{Kind: impl.GtAnd, A: 0, B: 1}, one.g, {Kind: impl.GtBit}}}
		if impl.GoodCircuit(c) != one.want {
			t.Errorf("%v as the wire 3: %v", one.g, !one.want)
		}
	}
	for _, kind := range gateKinds[1:] {
		if impl.GoodCircuit(impl.Circuit{Gates: gates(kind, 0, 0)}) {
			t.Errorf("a gate of kind %d where there is no wire ahead", kind)
		}
	}
}

// goodWant asks rule by rule.
func goodWant(c impl.Circuit) bool {
	good := c.Ins >= 0 && c.Ins <= 16 && len(c.Gates) <= 300 && len(c.Outs) <= 16
	for k, g := range c.Gates {
		good = good && slices.Contains(gateKinds, g.Kind)
		for _, wire := range takenBy(g) {
			good = good && wire >= 0 && wire < c.Ins+k
		}
		good = good && (g.Kind != impl.GtBit || g.A == 0 || g.A == 1)
		good = good && (len(takenBy(g)) == 2 || g.B == 0)
	}
	for _, wire := range c.Outs {
		good = good && wire >= 0 && wire < wiresOf(c)
	}
	return good
}

// marred changes one number of a circuit to one that may not do.
func marred(d drawer, c impl.Circuit) impl.Circuit {
	n := d.of([]int{-1, 0, 1, 2, 5, 6, 16, 17, wiresOf(c) - 1, wiresOf(c), wiresOf(c) + 1})
	place := d.Intn(len(c.Gates) + 1)
	switch {
	case d.Intn(4) == 0 && len(c.Outs) > 0:
		c.Outs = slices.Clone(c.Outs)
		c.Outs[d.Intn(len(c.Outs))] = n
	case place == len(c.Gates):
		c.Ins = n
	default:
		c.Gates = slices.Clone(c.Gates)
		g := &c.Gates[place]
		*[]*int{&g.Kind, &g.A, &g.B}[d.Intn(3)] = d.of([]int{n, c.Ins + place, c.Ins + place - 1})
	}
	return c
}

func TestGoodCircuitOfDrawnCircuits(t *testing.T) {
	count := map[bool]int{}
	everyCircuit(48, 3000, func(d drawer, c impl.Circuit) {
		c = marred(d, c)
		want := goodWant(c)
		count[want]++
		if impl.GoodCircuit(c) != want {
			t.Fatalf("GoodCircuit(%v): %v", c, !want)
		}
	})
	if count[true] < 300 || count[false] < 300 {
		t.Error("too few of a sort are drawn", count)
	}
}

func TestAllWiresOfEachKind(t *testing.T) {
	c := impl.Circuit{Ins: 2, Gates: gates(
		impl.GtBit, 0, 0, impl.GtBit, 1, 0, impl.GtNot, 0, 0, impl.GtNot, 1, 0,
		impl.GtAnd, 0, 1, impl.GtOr, 0, 1, impl.GtXor, 0, 1, impl.GtXor, 1, 1),
		Outs: []int{8, 0, 7, 8, 3}}
	const o, x = false, true
	for _, row := range [][]bool{
		{o, o, o, x, x, x, o, o, o, o},
		{x, o, o, x, o, x, o, x, x, o},
		{o, x, o, x, x, o, o, x, x, o},
		{x, x, o, x, o, o, x, x, o, o},
	} {
		if all, ok := impl.AllWires(c, row[:2]); !ok || !slices.Equal(all, row) {
			t.Errorf("AllWires at %v: %v, %v", row[:2], all, ok)
		}
		want := []bool{row[8], row[0], row[7], row[8], row[3]}
		if outs, ok := impl.RunCircuit(c, row[:2]); !ok || !slices.Equal(outs, want) {
			t.Errorf("RunCircuit at %v: %v, %v", row[:2], outs, ok)
		}
	}
	if all, ok := impl.AllWires(impl.Circuit{}, nil); len(all) != 0 || !ok {
		t.Error("AllWires of no wires", all, ok)
	}
	if outs, ok := impl.RunCircuit(impl.Circuit{Ins: 1}, []bool{true}); len(outs) != 0 || !ok {
		t.Error("RunCircuit of no Outs", outs, ok)
	}
}

func TestWiresOfDrawnCircuits(t *testing.T) {
	everyCircuit(40, 300, func(d drawer, c impl.Circuit) {
		if !impl.GoodCircuit(c) {
			t.Fatal("not good", c)
		}
		ins := d.bits(c.Ins)
		want := wiresWant(c, ins)
		if all, ok := impl.AllWires(c, ins); !ok || !slices.Equal(all, want) {
			t.Fatalf("AllWires(%v, %v): %v, %v", c, ins, all, ok)
		}
		outs, ok := impl.RunCircuit(c, ins)
		if !ok || len(outs) != len(c.Outs) {
			t.Fatalf("RunCircuit(%v, %v): %v, %v", c, ins, outs, ok)
		}
		for k, wire := range c.Outs {
			if outs[k] != want[wire] {
				t.Fatalf("RunCircuit(%v, %v): %v", c, ins, outs)
			}
		}
	})
}

func TestRunsAtWrongIns(t *testing.T) {
	everyCircuit(41, 60, func(d drawer, c impl.Circuit) {
		for _, count := range []int{c.Ins - 1, c.Ins + 1, wiresOf(c), 0, 17, 1000} {
			if count < 0 || count == c.Ins {
				continue
			}
			ins := d.bits(count)
			if all, ok := impl.AllWires(c, ins); len(all) != 0 || ok {
				t.Errorf("AllWires of %d ins for %d: %v, %v", count, c.Ins, all, ok)
			}
			if outs, ok := impl.RunCircuit(c, ins); len(outs) != 0 || ok {
				t.Errorf("RunCircuit of %d ins for %d: %v, %v", count, c.Ins, outs, ok)
			}
		}
	})
}

func TestConeOfByHand(t *testing.T) {
	c := impl.Circuit{Ins: 3, Gates: gates(
		impl.GtAnd, 2, 0, impl.GtBit, 1, 0, impl.GtNot, 1, 0, impl.GtXor, 3, 3, impl.GtOr, 6, 4, impl.GtNot, 7, 0),
		Outs: []int{5}}
	for wire, want := range [][]int{{0}, {1}, {2}, {0, 2, 3}, {4}, {1, 5}, {0, 2, 3, 6}, {0, 2, 3, 4, 6, 7}, {0, 2, 3, 4, 6, 7, 8}} {
		if got, ok := impl.ConeOf(c, wire); !ok || !slices.Equal(got, want) {
			t.Errorf("ConeOf(.., %d): %v, %v", wire, got, ok)
		}
	}
	for _, wire := range []int{-1, 9, 10, -3, math.MinInt, math.MaxInt} {
		if got, ok := impl.ConeOf(c, wire); len(got) != 0 || ok {
			t.Errorf("ConeOf(.., %d): %v, %v", wire, got, ok)
		}
	}
	if got, ok := impl.ConeOf(impl.Circuit{}, 0); len(got) != 0 || ok {
		t.Error("ConeOf where there is no wire", got, ok)
	}
}

func TestConeOfDrawnCircuits(t *testing.T) {
	everyCircuit(42, 200, func(d drawer, c impl.Circuit) {
		for wire := range wiresOf(c) {
			got, ok := impl.ConeOf(c, wire)
			if !ok || !slices.Equal(got, coneWant(c, wire)) {
				t.Fatalf("ConeOf(%v, %d): %v, %v", c, wire, got, ok)
			}
		}
		for _, wire := range []int{-1, wiresOf(c)} {
			if got, ok := impl.ConeOf(c, wire); len(got) != 0 || ok {
				t.Fatalf("ConeOf(%v, %d): %v, %v", c, wire, got, ok)
			}
		}
	})
}

// What is not in the cone of a wire makes no difference to it.
func TestConeOfIsAllThatCounts(t *testing.T) {
	everyCircuit(43, 100, func(d drawer, c impl.Circuit) {
		if wiresOf(c) == 0 {
			return
		}
		wire := d.Intn(wiresOf(c))
		cone, _ := impl.ConeOf(c, wire)
		ins := d.bits(c.Ins)
		other := slices.Clone(ins)
		for k := range other {
			if !slices.Contains(cone, k) {
				other[k] = !other[k]
			}
		}
		a, _ := impl.AllWires(c, ins)
		b, _ := impl.AllWires(c, other)
		for _, one := range cone {
			if a[one] != b[one] {
				t.Fatalf("wire %d of %v changes with what is not in %v", one, c, cone)
			}
		}
	})
}

func TestPruneCircuitByHand(t *testing.T) {
	c := impl.Circuit{Ins: 2, Gates: gates(
		impl.GtBit, 1, 0, impl.GtNot, 1, 0, impl.GtBit, 0, 0, impl.GtAnd, 3, 1, impl.GtXor, 5, 4, impl.GtNot, 5, 0, impl.GtOr, 0, 2)}
	for _, one := range []struct {
		outs []int
		want impl.Circuit
	}{
		{nil, impl.Circuit{Ins: 2}},
		{[]int{1, 0, 1}, impl.Circuit{Ins: 2, Outs: []int{1, 0, 1}}},
		{[]int{4}, impl.Circuit{Ins: 2, Gates: gates(impl.GtBit, 0, 0), Outs: []int{2}}},
		{[]int{7, 0, 7}, impl.Circuit{Ins: 2, Gates: gates(impl.GtNot, 1, 0, impl.GtAnd, 2, 1, impl.GtNot, 3, 0), Outs: []int{4, 0, 4}}},
		{[]int{6}, impl.Circuit{Ins: 2, Gates: gates(impl.GtNot, 1, 0, impl.GtBit, 0, 0, impl.GtAnd, 2, 1, impl.GtXor, 4, 3), Outs: []int{5}}},
		{[]int{8, 3}, impl.Circuit{Ins: 2, Gates: gates(impl.GtBit, 1, 0, impl.GtNot, 1, 0, impl.GtOr, 0, 2), Outs: []int{4, 3}}},
		{[]int{6, 7, 8}, impl.Circuit{Ins: 2, Gates: c.Gates, Outs: []int{6, 7, 8}}},
	} {
		c.Outs = one.outs
		if got, ok := impl.PruneCircuit(c); !ok || !sameCircuit(got, one.want) {
			t.Errorf("PruneCircuit with Outs %v: %v, %v", one.outs, got, ok)
		}
	}
	if got, ok := impl.PruneCircuit(impl.Circuit{}); !ok || !emptyCircuit(got) {
		t.Error("PruneCircuit of nothing", got, ok)
	}
}

func TestPrunedCircuitsCarryOutTheSame(t *testing.T) {
	everyCircuit(44, 300, func(d drawer, c impl.Circuit) {
		got, ok := impl.PruneCircuit(c)
		if !ok || !impl.GoodCircuit(got) || len(got.Gates) > len(c.Gates) || !sameCircuit(got, pruneWant(c)) {
			t.Fatalf("PruneCircuit(%v): %v, %v", c, got, ok)
		}
		everyIns(d, c.Ins, func(ins []bool) {
			a, _ := impl.RunCircuit(c, ins)
			b, ok := impl.RunCircuit(got, ins)
			if !ok || !slices.Equal(a, b) {
				t.Fatalf("%v at %v: %v, pruned %v", c, ins, a, b)
			}
		})
		if again, ok := impl.PruneCircuit(got); !ok || !sameCircuit(again, got) {
			t.Fatalf("%v pruned once more: %v", got, again)
		}
	})
}

// numberAt is what some wires carry as a number, the lower ones first.
func numberAt(all []bool, wires []int) *big.Int {
	n := new(big.Int)
	for k, wire := range wires {
		if all[wire] {
			n.SetBit(n, k, 1)
		}
	}
	return n
}

// addWant lays the gates behind as the document tells them.
func addWant(c impl.Circuit, a []int, b []int, carry int) ([]impl.Gate, []int) {
	out := slices.Clone(c.Gates)
	var sum []int
	for k := range a {
		x := c.Ins + len(out)
		out = append(out, gates(
			impl.GtXor, a[k], b[k], impl.GtXor, x, carry, impl.GtAnd, a[k], b[k], impl.GtAnd, x, carry, impl.GtOr, x+2, x+3)...)
		sum, carry = append(sum, x+1), x+4
	}
	return out, sum
}

func lessWant(c impl.Circuit, a []int, b []int) ([]impl.Gate, int) {
	out := append(slices.Clone(c.Gates), gates(impl.GtBit, 0, 0)...)
	for k := range a {
		x := c.Ins + len(out)
		out = append(out, gates(
			impl.GtXor, a[k], b[k], impl.GtNot, x, 0, impl.GtAnd, x+1, x-1,
			impl.GtNot, a[k], 0, impl.GtAnd, x+3, b[k], impl.GtOr, x+2, x+4)...)
	}
	return out, c.Ins + len(out) - 1
}

func eqWant(c impl.Circuit, a []int, b []int) ([]impl.Gate, int) {
	out := append(slices.Clone(c.Gates), gates(impl.GtBit, 1, 0)...)
	for k := range a {
		x := c.Ins + len(out)
		out = append(out, gates(impl.GtXor, a[k], b[k], impl.GtNot, x, 0, impl.GtAnd, x+1, x-1)...)
	}
	return out, c.Ins + len(out) - 1
}

func TestLaidGatesByHand(t *testing.T) {
	c := impl.Circuit{Ins: 5, Gates: gates(impl.GtNot, 4, 0), Outs: []int{5, 1}}
	a, b := []int{0, 1}, []int{2, 3}
	made, sum, ok := impl.AddGates(c, a, b, 5)
	want := impl.Circuit{Ins: 5, Outs: []int{5, 1}, Gates: gates(
		impl.GtNot, 4, 0,
		impl.GtXor, 0, 2, impl.GtXor, 6, 5, impl.GtAnd, 0, 2, impl.GtAnd, 6, 5, impl.GtOr, 8, 9,
		impl.GtXor, 1, 3, impl.GtXor, 11, 10, impl.GtAnd, 1, 3, impl.GtAnd, 11, 10, impl.GtOr, 13, 14)}
	if !ok || !sameCircuit(made, want) || !slices.Equal(sum, []int{7, 12}) {
		t.Error("AddGates", made, sum, ok)
	}
	made, answer, ok := impl.LessGates(c, a, b)
	want.Gates = gates(
		impl.GtNot, 4, 0, impl.GtBit, 0, 0,
		impl.GtXor, 0, 2, impl.GtNot, 7, 0, impl.GtAnd, 8, 6, impl.GtNot, 0, 0, impl.GtAnd, 10, 2, impl.GtOr, 9, 11,
		impl.GtXor, 1, 3, impl.GtNot, 13, 0, impl.GtAnd, 14, 12, impl.GtNot, 1, 0, impl.GtAnd, 16, 3, impl.GtOr, 15, 17)
	if !ok || !sameCircuit(made, want) || answer != 18 {
		t.Error("LessGates", made, answer, ok)
	}
	made, answer, ok = impl.EqGates(c, a, b)
	want.Gates = gates(
		impl.GtNot, 4, 0, impl.GtBit, 1, 0,
		impl.GtXor, 0, 2, impl.GtNot, 7, 0, impl.GtAnd, 8, 6,
		impl.GtXor, 1, 3, impl.GtNot, 10, 0, impl.GtAnd, 11, 9)
	if !ok || !sameCircuit(made, want) || answer != 12 {
		t.Error("EqGates", made, answer, ok)
	}
}

func TestLaidGatesOfNoWires(t *testing.T) {
	c := impl.Circuit{Ins: 2, Gates: gates(impl.GtOr, 1, 0), Outs: []int{2, 2}}
	if made, sum, ok := impl.AddGates(c, nil, []int{}, 2); !ok || !sameCircuit(made, c) || len(sum) != 0 {
		t.Error("AddGates", made, sum, ok)
	}
	for _, carry := range []int{-1, 3} {
		if made, sum, ok := impl.AddGates(c, nil, nil, carry); ok || !emptyCircuit(made) || len(sum) != 0 {
			t.Error("AddGates with the carry", carry, made, sum, ok)
		}
	}
	if made, sum, ok := impl.AddGates(impl.Circuit{}, nil, nil, 0); ok || !emptyCircuit(made) || len(sum) != 0 {
		t.Error("AddGates where there is no wire", made, sum, ok)
	}
	want := impl.Circuit{Ins: 2, Gates: gates(impl.GtOr, 1, 0, impl.GtBit, 0, 0), Outs: []int{2, 2}}
	if made, answer, ok := impl.LessGates(c, []int{}, nil); !ok || !sameCircuit(made, want) || answer != 3 {
		t.Error("LessGates", made, answer, ok)
	}
	want.Gates[1].A = 1
	if made, answer, ok := impl.EqGates(c, nil, nil); !ok || !sameCircuit(made, want) || answer != 3 {
		t.Error("EqGates", made, answer, ok)
	}
	if made, answer, ok := impl.LessGates(impl.Circuit{}, nil, nil); !ok || answer != 0 || !sameCircuit(made, impl.Circuit{Gates: noughts(1)}) {
		t.Error("LessGates where there is no wire", made, answer, ok)
	}
}

// everySides draws circuits with room for all gates, and two lists of as many wires.
func everySides(seed int64, count int, f func(d drawer, c impl.Circuit, a, b []int)) {
	everyCircuit(seed, count, func(d drawer, c impl.Circuit) {
		if wiresOf(c) == 0 || len(c.Gates) > 200 {
			return
		}
		size := d.Intn(17)
		f(d, c, d.wires(size, c), d.wires(size, c))
	})
}

func TestAddGatesCarrySums(t *testing.T) {
	everySides(45, 400, func(d drawer, c impl.Circuit, a, b []int) {
		carry := d.Intn(wiresOf(c))
		made, sum, ok := impl.AddGates(c, a, b, carry)
		wantGates, wantSum := addWant(c, a, b, carry)
		want := impl.Circuit{Ins: c.Ins, Gates: wantGates, Outs: c.Outs}
		if !ok || !impl.GoodCircuit(made) || !sameCircuit(made, want) || !slices.Equal(sum, wantSum) {
			t.Fatalf("AddGates(%v, %v, %v, %d): %v, %v, %v", c, a, b, carry, made, sum, ok)
		}
		for range 8 {
			all, _ := impl.AllWires(made, d.bits(c.Ins))
			n := new(big.Int).Add(numberAt(all, a), numberAt(all, b))
			n.Add(n, numberAt(all, []int{carry}))
			n.Mod(n, power(len(a)))
			if numberAt(all, sum).Cmp(n) != 0 {
				t.Fatalf("AddGates(%v, %v, %v, %d) carries %v, not %v", c, a, b, carry, numberAt(all, sum), n)
			}
		}
	})
}

func TestComparingGatesCarryComparisons(t *testing.T) {
	everySides(46, 400, func(d drawer, c impl.Circuit, a, b []int) {
		if d.Intn(3) == 0 {
			b = slices.Clone(a)
		}
		less, one, ok := impl.LessGates(c, a, b)
		wantGates, wantOne := lessWant(c, a, b)
		if !ok || one != wantOne || !sameCircuit(less, impl.Circuit{Ins: c.Ins, Gates: wantGates, Outs: c.Outs}) {
			t.Fatalf("LessGates(%v, %v, %v): %v, %d, %v", c, a, b, less, one, ok)
		}
		eq, same, ok := impl.EqGates(c, a, b)
		wantGates, wantSame := eqWant(c, a, b)
		if !ok || same != wantSame || !sameCircuit(eq, impl.Circuit{Ins: c.Ins, Gates: wantGates, Outs: c.Outs}) {
			t.Fatalf("EqGates(%v, %v, %v): %v, %d, %v", c, a, b, eq, same, ok)
		}
		more, other, _ := impl.LessGates(c, b, a)
		for range 8 {
			ins := d.bits(c.Ins)
			x, _ := impl.AllWires(less, ins)
			y, _ := impl.AllWires(eq, ins)
			z, _ := impl.AllWires(more, ins)
			order := numberAt(x, a).Cmp(numberAt(x, b))
			if x[one] != (order < 0) || y[same] != (order == 0) || z[other] != (order > 0) {
				t.Fatalf("%v and %v of %v at %v: less %v, the same %v, greater %v", a, b, c, ins, x[one], y[same], z[other])
			}
		}
	})
}

// All numbers of three bits, with both carries.
func TestLaidGatesOfAllSmallNumbers(t *testing.T) {
	c := impl.Circuit{Ins: 7}
	a, b := []int{0, 1, 2}, []int{3, 4, 5}
	add, sum, _ := impl.AddGates(c, a, b, 6)
	less, one, _ := impl.LessGates(c, a, b)
	eq, same, _ := impl.EqGates(c, a, b)
	for n := range 128 {
		x, y, carry := n%8, n/8%8, n/64
		var ins []bool
		for k := range 7 {
			ins = append(ins, n>>k&1 == 1)
		}
		all, _ := impl.AllWires(add, ins)
		if got := numberAt(all, sum).Int64(); got != int64(x+y+carry)%8 {
			t.Errorf("%d and %d and %d: %d", x, y, carry, got)
		}
		if all, _ := impl.AllWires(less, ins); all[one] != (x < y) {
			t.Errorf("%d less than %d: %v", x, y, all[one])
		}
		if all, _ := impl.AllWires(eq, ins); all[same] != (x == y) {
			t.Errorf("%d the same as %d: %v", x, y, all[same])
		}
	}
}

// laying is one of the three functions that lay gates, with a carry of 0.
type laying struct {
	name string
	lay  func(c impl.Circuit, a, b []int) (impl.Circuit, []int, bool)
	cost func(places int) int
}

var layings = []laying{
	{"AddGates", func(c impl.Circuit, a, b []int) (impl.Circuit, []int, bool) { return impl.AddGates(c, a, b, 0) },
		func(n int) int { return 5 * n }},
	{"LessGates", func(c impl.Circuit, a, b []int) (impl.Circuit, []int, bool) { return oneWire(impl.LessGates(c, a, b)) },
		func(n int) int { return 1 + 6*n }},
	{"EqGates", func(c impl.Circuit, a, b []int) (impl.Circuit, []int, bool) { return oneWire(impl.EqGates(c, a, b)) },
		func(n int) int { return 1 + 3*n }},
}

// oneWire is empty at the wire 0, which no gate can make behind a wire that comes in.
func oneWire(c impl.Circuit, wire int, ok bool) (impl.Circuit, []int, bool) {
	if wire == 0 {
		return c, nil, ok
	}
	return c, []int{wire}, ok
}

func checkRefused(t *testing.T, name string, l laying, c impl.Circuit, a, b []int) {
	t.Helper()
	if made, wires, ok := l.lay(c, a, b); ok || !emptyCircuit(made) || len(wires) != 0 {
		t.Errorf("%s, %s: %v, %v, %v", l.name, name, made, wires, ok)
	}
}

func TestLaidGatesByTheListsLengths(t *testing.T) {
	c := impl.Circuit{Ins: 2, Gates: noughts(3), Outs: []int{1, 4, 4}}
	for _, l := range layings {
		for a := range 20 {
			for b := range 20 {
				made, wires, ok := l.lay(c, make([]int, a), make([]int, b))
				switch want := a == b && a <= 16; {
				case ok != want:
					t.Errorf("%s of %d and %d wires: %v", l.name, a, b, ok)
				case !want && (!emptyCircuit(made) || len(wires) != 0):
					t.Errorf("%s of %d and %d wires: %v, %v", l.name, a, b, made, wires)
				case want && (len(made.Gates) != 3+l.cost(a) || !slices.Equal(made.Outs, c.Outs)):
					t.Errorf("%s of %d wires: %d gates, Outs %v", l.name, a, len(made.Gates), made.Outs)
				}
			}
		}
		checkRefused(t, "many wires", l, c, make([]int, 5000), make([]int, 5000))
	}
}

func TestLaidGatesOfWhatIsNoWire(t *testing.T) {
	c := impl.Circuit{Ins: 2, Gates: noughts(3), Outs: []int{1}}
	for _, bad := range []int{-1, 5, 6, math.MinInt, math.MaxInt} {
		for place := range 3 {
			good, list := []int{0, 4, 1}, []int{4, 2, 3}
			list[place] = bad
			for _, l := range layings {
				checkRefused(t, "a wire that is none, first", l, c, list, good)
				checkRefused(t, "a wire that is none, second", l, c, good, list)
				checkRefused(t, "a wire that is none, both", l, c, list, list)
			}
		}
		if made, sum, ok := impl.AddGates(c, []int{0, 4}, []int{1, 2}, bad); ok || !emptyCircuit(made) || len(sum) != 0 {
			t.Errorf("AddGates with the carry %d: %v, %v, %v", bad, made, sum, ok)
		}
	}
	for carry := range 5 {
		if _, _, ok := impl.AddGates(c, []int{0, 4}, []int{1, 2}, carry); !ok {
			t.Errorf("AddGates with the carry %d tells false", carry)
		}
	}
}

func TestLaidGatesAtTheLimit(t *testing.T) {
	for _, l := range layings {
		for _, places := range []int{0, 1, 7, 16} {
			list := make([]int, places)
			for count := 295 - l.cost(places); count <= impl.MaxGates; count++ {
				if count < 0 {
					continue
				}
				c := impl.Circuit{Ins: 1, Gates: noughts(count), Outs: []int{count}}
				all := count + l.cost(places)
				if all > impl.MaxGates {
					checkRefused(t, "a gate too many", l, c, list, list)
					continue
				}
				made, _, ok := l.lay(c, list, list)
				if !ok || len(made.Gates) != all || !impl.GoodCircuit(made) {
					t.Errorf("%s: %d gates in all: %d, %v", l.name, all, len(made.Gates), ok)
				}
			}
		}
	}
}

// badCircuits are not good by one rule each.
var badCircuits = map[string]impl.Circuit{
	"Ins below 0":          {Ins: -1},
	"Ins beyond":           {Ins: 17},
	"least Ins":            {Ins: math.MinInt},
	"greatest Ins":         {Ins: math.MaxInt, Gates: noughts(3), Outs: []int{2}},
	"too many gates":       {Ins: 3, Gates: noughts(301)},
	"too many outs":        {Ins: 3, Outs: make([]int, 17)},
	"an out below 0":       {Ins: 3, Outs: []int{0, -1}},
	"an out that is none":  {Ins: 3, Gates: noughts(2), Outs: []int{5}},
	"no kind":              {Ins: 3, Gates: gates(0, 0, 0)},
	"a kind beyond":        {Ins: 3, Gates: gates(6, 0, 0)},
	"a bit of 2":           {Ins: 3, Gates: gates(impl.GtBit, 2, 0)},
	"a bit with B":         {Ins: 3, Gates: gates(impl.GtBit, 1, 1)},
	"a not with B":         {Ins: 3, Gates: gates(impl.GtNot, 1, 1)},
	"a not of itself":      {Ins: 3, Gates: gates(impl.GtNot, 3, 0)},
	"an and of itself":     {Ins: 3, Gates: gates(impl.GtAnd, 0, 3)},
	"an or of a later one": {Ins: 3, Gates: gates(impl.GtOr, 4, 0, impl.GtBit, 0, 0)},
	"a xor below 0":        {Ins: 3, Gates: gates(impl.GtXor, -1, 0)},
	"two in a round":       {Ins: 3, Gates: gates(impl.GtNot, 4, 0, impl.GtNot, 3, 0), Outs: []int{4}},
	"B far beyond":         {Ins: 3, Gates: gates(impl.GtXor, 0, math.MaxInt)},
}

func TestCircuitsThatAreNotGood(t *testing.T) {
	for name, c := range badCircuits {
		if impl.GoodCircuit(c) {
			t.Errorf("%s: good", name)
		}
		for _, count := range []int{0, 3, 17, min(max(c.Ins, 0), 20)} {
			ins := make([]bool, count)
			if all, ok := impl.AllWires(c, ins); len(all) != 0 || ok {
				t.Errorf("%s: wires %v, %v", name, all, ok)
			}
			if outs, ok := impl.RunCircuit(c, ins); len(outs) != 0 || ok {
				t.Errorf("%s: runs %v, %v", name, outs, ok)
			}
		}
		for _, wire := range []int{-1, 0, 1, 3, 17, math.MaxInt} {
			if cone, ok := impl.ConeOf(c, wire); len(cone) != 0 || ok {
				t.Errorf("%s: cone of %d %v, %v", name, wire, cone, ok)
			}
		}
		if pruned, ok := impl.PruneCircuit(c); !emptyCircuit(pruned) || ok {
			t.Errorf("%s: pruned %v, %v", name, pruned, ok)
		}
		for _, l := range layings {
			checkRefused(t, name, l, c, nil, nil)
			checkRefused(t, name, l, c, []int{0}, []int{1})
		}
	}
}

// spilled tells what lies in an argument's memory, behind its length too.
func spilled(c impl.Circuit) impl.Circuit {
	return impl.Circuit{Ins: c.Ins, Gates: slices.Clone(c.Gates[:cap(c.Gates)]), Outs: slices.Clone(c.Outs[:cap(c.Outs)])}
}

// ruined writes over all that a list's memory holds, behind its length too, and tells where that is.
func ruined[T any](list []T, with T) [2]uintptr {
	list = list[:cap(list)]
	for k := range list {
		list[k] = with
	}
	var one T
	from := uintptr(unsafe.Pointer(unsafe.SliceData(list)))
	return [2]uintptr{from, from + uintptr(len(list))*unsafe.Sizeof(one)}
}

// asAnswers makes each call of the chapter; what it answers is told as it was ahead of writing it over, with the memory of all its lists.
func asAnswers(c impl.Circuit, ins []bool, a, b []int, wire int) (told []any, memory [][][2]uintptr) {
	tell := func(answers ...any) {
		var held [][2]uintptr
		for _, answer := range answers {
			switch x := answer.(type) {
			case []bool:
				told = append(told, append([]bool{}, x...))
				held = append(held, ruined(x, true))
			case []int:
				told = append(told, append([]int{}, x...))
				held = append(held, ruined(x, -77))
			case impl.Circuit:
				told = append(told, x.Ins, append([]impl.Gate{}, x.Gates...), append([]int{}, x.Outs...))
				held = append(held, ruined(x.Gates, impl.Gate{Kind: -7, A: -7, B: -7}), ruined(x.Outs, -77))
			default:
				told = append(told, x)
			}
		}
		memory = append(memory, held)
	}
	all, ok := impl.AllWires(c, ins)
	tell(all, ok)
	outs, ok := impl.RunCircuit(c, ins)
	tell(outs, ok)
	cone, ok := impl.ConeOf(c, wire)
	tell(cone, ok)
	pruned, ok := impl.PruneCircuit(c)
	tell(pruned, ok)
	added, sum, ok := impl.AddGates(c, a, b, wire)
	tell(added, sum, ok)
	same, none, ok := impl.AddGates(c, nil, nil, wire)
	tell(same, none, ok)
	less, answer, ok := impl.LessGates(c, a, b)
	tell(less, answer, ok)
	eq, answer, ok := impl.EqGates(c, a, a)
	tell(eq, answer, ok, impl.GoodCircuit(c))
	return told, memory
}

func apart(t *testing.T, memory [][2]uintptr) {
	t.Helper()
	for k, one := range memory {
		for _, other := range memory[:k] {
			if one[0] < other[1] && other[0] < one[1] {
				t.Fatal("two lists share memory")
			}
		}
	}
}

func span[T any](list []T) [2]uintptr {
	var one T
	from := uintptr(unsafe.Pointer(unsafe.SliceData(list)))
	return [2]uintptr{from, from + uintptr(cap(list))*unsafe.Sizeof(one)}
}

// Each call is made twice with lists that have more memory behind their length, and what the first one answered is written over ahead of the second.
func TestGatesWriteIntoNoArgument(t *testing.T) {
	everySides(47, 300, func(d drawer, c impl.Circuit, a, b []int) {
		ins := guarded(d.bits(c.Ins), true, false, true)
		plain := c
		c.Gates = guarded(c.Gates, gates(9, 9, 9, impl.GtBit, 1, 0, impl.GtNot, 0, 0)...)
		c.Outs = guarded(c.Outs, 0, -5, 400)
		a, b = guarded(a, 0, 0, 1000), guarded(b, 0, 0, -1000)
		wire := d.Intn(wiresOf(c))
		args := func() []any {
			return []any{spilled(c), slices.Clone(ins[:cap(ins)]), slices.Clone(a[:cap(a)]), slices.Clone(b[:cap(b)])}
		}
		before := args()
		first, memory := asAnswers(c, ins, a, b, wire)
		for _, held := range memory {
			apart(t, append(held, span(ins), span(a), span(b), span(c.Gates), span(c.Outs)))
		}
		second, _ := asAnswers(c, ins, a, b, wire)
		third, _ := asAnswers(plain, slices.Clone(ins), slices.Clone(a), slices.Clone(b), wire)
		if !reflect.DeepEqual(first, second) || !reflect.DeepEqual(first, third) {
			t.Fatalf("%v, then %v, and without what is behind %v", first, second, third)
		}
		if !reflect.DeepEqual(before, args()) {
			t.Fatalf("an argument is written into: %v, then %v", before, args())
		}
	})
}

// What lies behind a list's length would make these circuits good, or not.
func TestCircuitsEndAtTheirLength(t *testing.T) {
	all := gates(impl.GtBit, 1, 0, impl.GtAnd, 0, 0, impl.GtNot, 9, 0)
	outs := []int{0, 1, 2, 3}
	for count, want := range []int{0, 1, 2, -1} {
		for length := range 5 {
			c := impl.Circuit{Gates: all[:count], Outs: outs[:length]}
			if impl.GoodCircuit(c) != (length <= want) {
				t.Errorf("%d gates and %d Outs: %v", count, length, length > want)
			}
		}
	}
	two := impl.Circuit{Gates: all[:2], Outs: outs[:2]}
	for _, l := range layings {
		checkRefused(t, "a list that ends too early", l, two, outs[:1], outs[:2])
		if _, _, ok := l.lay(two, outs[:2], outs[:2]); !ok {
			t.Errorf("%s tells false", l.name)
		}
		checkRefused(t, "a list that goes on", l, two, outs[:3], outs[:3])
	}
}
