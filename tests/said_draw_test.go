package tests

import (
	"slices"
	"strings"
	"testing"

	"loop.example/g00649/impl"
)

// saidNodes are the nodes by the document's list of what stands for them.
var saidNodes = map[byte]impl.Said{
	'p': {Op: impl.FAtom, N: 0}, 'q': {Op: impl.FAtom, N: 1}, 'r': {Op: impl.FAtom, N: 2},
	'0': {Op: impl.FYes, N: 0}, '1': {Op: impl.FYes, N: 1},
	'!': {Op: impl.FNot}, 'X': {Op: impl.FNext},
	'&': {Op: impl.FAnd}, '|': {Op: impl.FOr}, 'U': {Op: impl.FUntil}, 'R': {Op: impl.FRelease},
}

const (
	saidLeaves = "pqr01"
	saidTurns  = "!X"
	saidJoins  = "&|UR"
)

func isOf(some string, c byte) bool { return strings.IndexByte(some, c) >= 0 }

// said reads a formula that is rightly written, with a pile of what waits for its parts.
func said(text string) []impl.Said {
	var out []impl.Said
	var wait []byte
	for _, c := range []byte(text) {
		switch {
		case isOf("("+saidTurns+saidJoins, c):
			wait = append(wait, c)
			continue
		case c == ')':
			out = append(out, saidNodes[wait[len(wait)-1]])
			wait = wait[:len(wait)-2]
		default:
			out = append(out, saidNodes[c])
		}
		for len(wait) > 0 && isOf(saidTurns, wait[len(wait)-1]) {
			out = append(out, saidNodes[wait[len(wait)-1]])
			wait = wait[:len(wait)-1]
		}
	}
	return out
}

// saidWritten is the text of a good formula, with a pile of its parts' texts.
func saidWritten(f []impl.Said) string {
	signs := map[impl.Said]string{}
	for c, n := range saidNodes {
		signs[n] = string(c)
	}
	var pile []string
	for _, n := range f {
		sign, top := signs[n], len(pile)-1
		switch saidTaken(n.Op) {
		case 0:
			pile = append(pile, sign)
		case 1:
			pile[top] = sign + pile[top]
		case 2:
			pile = append(pile[:top-1], "("+pile[top-1]+sign+pile[top]+")")
		}
	}
	return pile[0]
}

// saidTaken is how many parts an op takes, by the document's list; -1 of an unknown one.
func saidTaken(op int) int {
	switch op {
	case impl.FAtom, impl.FYes:
		return 0
	case impl.FNot, impl.FNext:
		return 1
	case impl.FAnd, impl.FOr, impl.FUntil, impl.FRelease:
		return 2
	}
	return -1
}

// goodSaidWant counts what lies on the pile.
func goodSaidWant(f []impl.Said) bool {
	open := 0
	for _, n := range f {
		most := map[int]int{impl.FAtom: 2, impl.FYes: 1}[n.Op]
		takes := saidTaken(n.Op)
		if takes < 0 || n.N < 0 || n.N > most || open < takes {
			return false
		}
		open += 1 - takes
	}
	return open == 1 && len(f) <= 16
}

// saidParts has for each node of a good formula the numbers of its parts' roots.
func saidParts(f []impl.Said) [][]int {
	var out [][]int
	var pile []int
	for k, n := range f {
		rest := len(pile) - saidTaken(n.Op)
		out = append(out, slices.Clone(pile[rest:]))
		pile = append(pile[:rest], k)
	}
	return out
}

func sameSaid(a, b []impl.Said) bool { return slices.Equal(a, b) }

// sized is a good formula of so many nodes, whose root is not FNot.
func sized(count int) []impl.Said {
	f := said("p")
	for len(f)+2 <= count {
		f = append(f, saidNodes['q'], saidNodes['U'])
	}
	if len(f) < count {
		f = slices.Insert(f, 1, saidNodes['!'])
	}
	return f
}

func (d drawer) sign(some string) impl.Said { return saidNodes[some[d.Intn(len(some))]] }

// said draws a good formula of at most room nodes, made of these signs.
func (d drawer) said(room int, signs string) []impl.Said {
	n := d.sign(signs)
	for saidTaken(n.Op) >= room {
		n = d.sign(saidLeaves)
	}
	if saidTaken(n.Op) == 0 && d.Intn(3) > 0 && room > 3 {
		n = d.sign(saidJoins)
	}
	switch saidTaken(n.Op) {
	case 1:
		return append(d.said(room-1, signs), n)
	case 2:
		first := d.said(1+d.Intn(room-2), signs)
		return append(append(first, d.said(room-1-len(first), signs)...), n)
	}
	return []impl.Said{n}
}

const (
	allSigns    = "ppqqrr01!!XXX&&||UUURRR"
	withoutNext = "ppqqrr01!!&&||UUURRR"
)

func everySaid(seed int64, count int, f func(d drawer, g []impl.Said)) {
	d := newDrawer(seed)
	for range count {
		f(d, d.said(1+d.Intn(16), allSigns))
	}
}

// spoiledSaid is another list of nodes, seldom a good formula.
func (d drawer) spoiledSaid(f []impl.Said) []impl.Said {
	f = slices.Clone(f)
	k := d.Intn(len(f))
	switch d.Intn(6) {
	case 0:
		f[k].Op = d.of([]int{0, 9, 10, -1, 1 << 40, -1 << 63, 1<<63 - 1})
	case 1:
		f[k].N = d.of([]int{-1, 3, 4, 1 << 32, -1 << 63, 1<<63 - 1})
	case 2:
		f[k].Op = 1 + d.Intn(8)
	case 3:
		return slices.Delete(f, k, k+1)
	case 4:
		return slices.Insert(f, k, d.sign(allSigns))
	case 5:
		f[k].N = d.Intn(3)
	}
	return f
}

// saidTold and noSaidTold are as listTold and noListTold.

func saidTold(t *testing.T, want []impl.Said, asked ...any) func(f []impl.Said, ok bool) {
	return func(f []impl.Said, ok bool) {
		t.Helper()
		if !sameSaid(f, want) || !ok {
			t.Errorf("%v: %v, %v, not %v", asked, f, ok, want)
		}
	}
}

func noSaidTold(t *testing.T, asked ...any) func(f []impl.Said, ok bool) {
	return func(f []impl.Said, ok bool) {
		t.Helper()
		if len(f) != 0 || ok {
			t.Errorf("%v: %v, %v", asked, f, ok)
		}
	}
}

func checkGoodSaid(t *testing.T, f []impl.Said, want bool) {
	t.Helper()
	if impl.GoodSaid(f) != want {
		t.Errorf("GoodSaid(%v): not %v", f, want)
	}
}

// silentSaid asks for the zero answer of each function of the chapter.
func silentSaid(t *testing.T, name string, f []impl.Said) {
	t.Helper()
	checkGoodSaid(t, f, false)
	for _, k := range []int{0, 1, 2, 47, 1000, 1001, -1} {
		noOneTold[bool](t, name, "HoldsAt", f, k)(impl.HoldsAt(f, lasso([]int{1, 2}, 3, 7), k))
	}
	for _, not := range []bool{false, true} {
		noSaidTold(t, name, "PushNot", f, not)(impl.PushNot(f, not))
	}
	noOneTold[bool](t, name, "IsPushed", f)(impl.IsPushed(f))
	for op := -1; op <= 10; op++ {
		for _, other := range [][]impl.Said{said("p"), said("(pUX!q)"), f, nil} {
			noSaidTold(t, name, "JoinSaid", op, f, other)(impl.JoinSaid(op, f, other))
			noSaidTold(t, name, "JoinSaid", op, other, f)(impl.JoinSaid(op, other, f))
		}
		noSaidTold(t, name, "TurnSaid", op, f)(impl.TurnSaid(op, f))
	}
	noOneTold[string](t, name, "SaidText", f)(impl.SaidText(f))
	noOneTold[int](t, name, "NextDepth", f)(impl.NextDepth(f))
	noListTold(t, name, "AtomsIn", f)(impl.AtomsIn(f))
}
