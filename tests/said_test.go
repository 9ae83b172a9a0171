package tests

import (
	"math"
	"slices"
	"testing"

	"loop.example/g00649/impl"
)

func TestSaidConstants(t *testing.T) {
	if impl.MaxSaid != 16 || impl.Atoms != 3 {
		t.Error(impl.MaxSaid, impl.Atoms)
	}
	for k, op := range []int{impl.FAtom, impl.FYes, impl.FNot, impl.FNext, impl.FAnd, impl.FOr, impl.FUntil, impl.FRelease} {
		if op != k+1 {
			t.Error(k, op)
		}
	}
}

// turned is a formula with so many signs of one part ahead of it.
func turned(f []impl.Said, sign byte, count int) []impl.Said {
	return slices.Concat(f, slices.Repeat([]impl.Said{saidNodes[sign]}, count))
}

func TestGoodSaidByItsLength(t *testing.T) {
	silentSaid(t, "no node", nil)
	silentSaid(t, "no node", []impl.Said{})
	for _, sign := range []byte("!X") {
		for count := range 30 {
			f := turned(said("p"), sign, count)
			checkGoodSaid(t, f, count <= 15)
			if count > 15 {
				silentSaid(t, "too long", f)
			}
		}
	}
	for count := 1; count <= 40; count++ {
		f := sized(count)
		if len(f) != count {
			t.Error("not of the length", count, f)
		}
		checkGoodSaid(t, f, count <= 16)
		if count > 16 {
			silentSaid(t, "too long", f)
		}
	}
	silentSaid(t, "too long", turned(said("q"), 'X', 5000))
}

func TestGoodSaidByItsParts(t *testing.T) {
	p, q := said("p"), said("q")
	for _, sign := range []byte(saidTurns + saidJoins) {
		n := saidNodes[sign]
		takes := saidTaken(n.Op)
		for _, leaf := range []byte(saidLeaves) {
			for count := range 5 {
				f := append(slices.Repeat([]impl.Said{saidNodes[leaf]}, count), n)
				checkGoodSaid(t, f, count == takes)
				if count != takes {
					silentSaid(t, "parts", f)
				}
			}
		}
		// the part stands behind, and not ahead; what is on the pile for another node is no part more
		silentSaid(t, "ahead", slices.Concat([]impl.Said{n}, p, q))
		silentSaid(t, "ahead", slices.Concat([]impl.Said{n}, p))
		silentSaid(t, "taken already", slices.Concat(p, q, []impl.Said{saidNodes['&'], saidNodes['U']}))
		silentSaid(t, "one left", slices.Concat(p, q, p, []impl.Said{n}))
	}
	for _, leaf := range []byte(saidLeaves) {
		checkGoodSaid(t, []impl.Said{saidNodes[leaf]}, true)
		silentSaid(t, "two roots", []impl.Said{saidNodes[leaf], saidNodes['p']})
	}
	silentSaid(t, "two roots", slices.Concat(said("(pUq)"), said("Xr")))
}

func TestGoodSaidByItsNumbers(t *testing.T) {
	good := map[int][]int{impl.FAtom: {0, 1, 2}, impl.FYes: {0, 1}}
	for op := 1; op <= 8; op++ {
		for _, n := range []int{-1, 0, 1, 2, 3, 4, -2, 1 << 32, 1<<32 + 1, math.MinInt, math.MaxInt} {
			f := slices.Repeat(said("q"), max(0, saidTaken(op)))
			f = append(f, impl.Said{Op: op, N: n})
			want := n == 0 || slices.Contains(good[op], n)
			checkGoodSaid(t, f, want)
			checkGoodSaid(t, append(slices.Clone(f), saidNodes['X'], saidNodes['!']), want)
			checkGoodSaid(t, slices.Concat(f, said("q"), []impl.Said{saidNodes['U']}), want)
			if !want {
				silentSaid(t, "N", f)
			}
		}
	}
}

func TestGoodSaidByItsOps(t *testing.T) {
	for _, op := range []int{0, 9, 10, -1, -3, 1 << 32, 1<<32 + 1, math.MinInt, math.MaxInt} {
		n := impl.Said{Op: op}
		for count := range 4 {
			silentSaid(t, "Op", append(slices.Repeat(said("p"), count), n))
		}
		silentSaid(t, "Op", []impl.Said{n, saidNodes['!']})
		silentSaid(t, "Op", []impl.Said{saidNodes['p'], n, saidNodes['&']})
	}
}

// All lists of few nodes.
func TestGoodSaidOfShortLists(t *testing.T) {
	var some []impl.Said
	for op := -1; op <= 10; op++ {
		for n := -1; n <= 3; n++ {
			some = append(some, impl.Said{Op: op, N: n})
		}
	}
	counts := map[bool]int{}
	for _, a := range some {
		checkGoodSaid(t, []impl.Said{a}, goodSaidWant([]impl.Said{a}))
		for _, b := range some {
			checkGoodSaid(t, []impl.Said{a, b}, goodSaidWant([]impl.Said{a, b}))
			for _, c := range some {
				f := []impl.Said{a, b, c}
				want := goodSaidWant(f)
				checkGoodSaid(t, f, want)
				counts[want]++
			}
		}
	}
	if counts[true] != 5*5*4+5*2*2 {
		t.Error("good ones of three nodes", counts)
	}
}

func TestGoodSaidOfDrawnFormulas(t *testing.T) {
	counts := map[bool]int{}
	everySaid(220, 6000, func(d drawer, f []impl.Said) {
		checkGoodSaid(t, f, true)
		bad := d.spoiledSaid(f)
		want := goodSaidWant(bad)
		counts[want]++
		checkGoodSaid(t, bad, want)
		if !want && d.Intn(4) == 0 {
			silentSaid(t, "spoiled", bad)
		}
	})
	if counts[true] < 500 || counts[false] < 2000 {
		t.Error("too few of a sort", counts)
	}
}

func checkJoin(t *testing.T, op int, a, b []impl.Said) {
	t.Helper()
	want := slices.Concat(a, b, []impl.Said{{Op: op}})
	if len(want) > 16 {
		noSaidTold(t, "JoinSaid", op, a, b)(impl.JoinSaid(op, a, b))
		return
	}
	saidTold(t, want, "JoinSaid", op, a, b)(impl.JoinSaid(op, a, b))
}

func TestJoinSaid(t *testing.T) {
	for _, op := range []int{impl.FAnd, impl.FOr, impl.FUntil, impl.FRelease} {
		checkJoin(t, op, said("p"), said("0"))
		checkJoin(t, op, said("(pUq)"), said("X!r"))
		checkJoin(t, op, said("X!r"), said("(pUq)"))
		for first := 1; first <= 16; first++ {
			for second := 1; second <= 16; second++ {
				checkJoin(t, op, sized(first), sized(second))
			}
		}
		if f, ok := impl.JoinSaid(op, sized(7), sized(8)); len(f) != 16 || !ok {
			t.Error("just 16 nodes", f, ok)
		}
		noSaidTold(t, "17 nodes")(impl.JoinSaid(op, sized(8), sized(8)))
		noSaidTold(t, "a part of 17")(impl.JoinSaid(op, sized(17), sized(1)))
		for _, bad := range [][]impl.Said{nil, {}, {{Op: impl.FAtom, N: 3}}, {saidNodes['!']}, {saidNodes['p'], saidNodes['q']}} {
			noSaidTold(t, op, bad)(impl.JoinSaid(op, said("p"), bad))
			noSaidTold(t, op, bad)(impl.JoinSaid(op, bad, said("p")))
			noSaidTold(t, op, bad)(impl.JoinSaid(op, bad, bad))
		}
		// parts that are good together alone
		noSaidTold(t, op)(impl.JoinSaid(op, said("(pUq)")[:2], said("(pUq)")[2:]))
		noSaidTold(t, op)(impl.JoinSaid(op, nil, slices.Concat(said("p"), said("q"))))
	}
}

func TestTurnSaid(t *testing.T) {
	for _, op := range []int{impl.FNot, impl.FNext} {
		for count := 1; count <= 16; count++ {
			f := sized(count)
			if count == 16 {
				noSaidTold(t, "17 nodes", op)(impl.TurnSaid(op, f))
				continue
			}
			saidTold(t, append(slices.Clone(f), impl.Said{Op: op}), "TurnSaid", op, f)(impl.TurnSaid(op, f))
		}
		saidTold(t, said("!!p"), "TurnSaid")(impl.TurnSaid(impl.FNot, said("!p")))
		saidTold(t, said("X!p"), "TurnSaid")(impl.TurnSaid(impl.FNext, said("!p")))
		for _, bad := range [][]impl.Said{nil, {}, {{Op: impl.FYes, N: 2}}, {saidNodes['!']}, {saidNodes['p'], saidNodes['q']}, sized(17)} {
			noSaidTold(t, op, bad)(impl.TurnSaid(op, bad))
		}
	}
}

// Ops that take another number of parts, and ones that there are not.
func TestOpsThatJoinOrTurnNothing(t *testing.T) {
	ops := []int{0, 1, 2, 3, 4, 5, 6, 7, 8, 9, 10, -1, -5, 1 << 32, 1<<32 + 5, 1<<32 + 3, math.MinInt, math.MaxInt}
	for _, op := range ops {
		for _, f := range [][]impl.Said{said("p"), said("1"), said("!q"), said("(pRr)"), nil} {
			if saidTaken(op) != 2 {
				noSaidTold(t, "JoinSaid", op, f)(impl.JoinSaid(op, f, f))
				noSaidTold(t, "JoinSaid", op, f)(impl.JoinSaid(op, f, nil))
				noSaidTold(t, "JoinSaid", op, f)(impl.JoinSaid(op, nil, f))
			}
			if saidTaken(op) != 1 {
				noSaidTold(t, "TurnSaid", op, f)(impl.TurnSaid(op, f))
			}
		}
	}
}

func TestNextDepthByHand(t *testing.T) {
	for text, want := range map[string]int{
		"p": 0, "1": 0, "!p": 0, "(pUq)": 0, "((p&!q)R(1|r))": 0,
		"Xp": 1, "!Xp": 1, "X!p": 1, "XXp": 2, "X!Xp": 2, "!X!X!p": 2, "XX1": 2,
		"(Xp&Xq)": 1, "(XpUXXq)": 2, "(XXpUXq)": 2, "(XXpRq)": 2, "(p|XXXq)": 3,
		"X(p&q)": 1, "X(Xp&q)": 2, "X(p&Xq)": 2, "X(XpUXq)": 2, "X(XpRX(qUXr))": 3,
		"((XpUXq)R(XrUXp))": 1, "(X(XpUq)RX(rUXXXp))": 4, "XXXXXXXXXXXXXXXp": 15, "X!X!X!X!X!X!X!1": 7,
	} {
		oneTold(t, want, "NextDepth", text)(impl.NextDepth(said(text)))
	}
}

func TestAtomsInByHand(t *testing.T) {
	for text, want := range map[string][]int{
		"0": nil, "1": nil, "X!1": nil, "(1U0)": nil,
		"p": {0}, "q": {1}, "r": {2}, "!X!r": {2}, "(pUp)": {0}, "((rRr)&!r)": {2},
		"(pUq)": {0, 1}, "(qUp)": {0, 1}, "(rUp)": {0, 2}, "(rRq)": {1, 2}, "((rUr)|(1R!q))": {1, 2},
		"((rUq)&p)": {0, 1, 2}, "(p&(rUq))": {0, 1, 2}, "((rUr)&((pRp)|Xq))": {0, 1, 2},
	} {
		listTold(t, want, "AtomsIn", text)(impl.AtomsIn(said(text)))
	}
}

// depthWanted goes through the text, with the number of FNext that each bracket stands in.
func depthWanted(text string) int {
	depth, open, greatest := 0, []int{}, 0
	for _, c := range []byte(text) {
		switch {
		case c == 'X':
			depth++
			greatest = max(greatest, depth)
		case c == '(':
			open = append(open, depth)
		case isOf(saidJoins, c):
			depth = open[len(open)-1]
		case c == ')':
			open = open[:len(open)-1]
		}
	}
	return greatest
}

func TestNextDepthAndAtomsInOfDrawnFormulas(t *testing.T) {
	depths, atoms := map[int]int{}, map[int]int{}
	everySaid(221, 4000, func(_ drawer, f []impl.Said) {
		text := saidWritten(f)
		depth := depthWanted(text)
		var want []int
		for n, name := range []byte("pqr") {
			if isOf(text, name) {
				want = append(want, n)
			}
		}
		oneTold(t, depth, "NextDepth", text)(impl.NextDepth(f))
		listTold(t, want, "AtomsIn", text)(impl.AtomsIn(f))
		depths[min(depth, 4)]++
		atoms[len(want)]++
	})
	for k := range 4 {
		if depths[k] < 50 || atoms[k] < 100 {
			t.Error("too few of a sort", k, depths, atoms)
		}
	}
}
