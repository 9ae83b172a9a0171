package tests

import (
	"math/big"
	"math/rand"
	"reflect"
	"slices"
	"testing"

	"loop.example/g00649/impl"
)

var (
	numberOps  = []int{impl.OpAdd, impl.OpSub, impl.OpMul, impl.OpDiv, impl.OpRem, impl.OpAnd, impl.OpOr, impl.OpXor, impl.OpLeft, impl.OpRight}
	compareOps = []int{impl.OpEq, impl.OpLess, impl.OpLessS}
	joinOps    = []int{impl.OpBoth, impl.OpEither}
	someWides  = []int{1, 2, 3, 4, 5, 8, 31, 32, 62, 63, 64}
	badVars    = []int{0, -1, 5, 6, -1 << 63, 1<<63 - 1}
)

// drawer draws the same things in every run of the tests.
type drawer struct{ *rand.Rand }

func newDrawer(seed int64) drawer { return drawer{rand.New(rand.NewSource(seed))} }

func (d drawer) of(list []int) int { return list[d.Intn(len(list))] }

func (d drawer) word(wide int) uint64 {
	words := wordsOf(wide)
	if d.Intn(2) == 0 {
		return words[d.Intn(len(words))]
	}
	return modulo(wide, whole(d.Uint64()))
}

func (d drawer) state(wide int, vars int) []uint64 {
	var out []uint64
	for range vars {
		out = append(out, d.word(wide))
	}
	return out
}

func (d drawer) leaf(wide int, vars int, kind int) []impl.Node {
	switch {
	case kind == 2:
		return nodes(impl.OpYes, d.Intn(2))
	case d.Intn(3) == 0:
		return []impl.Node{{Op: impl.OpNum, N: d.word(wide)}}
	}
	return nodes(impl.OpVar, d.Intn(vars))
}

// term draws a good term of at most room nodes.
func (d drawer) term(wide int, vars int, kind int, room int) []impl.Node {
	switch {
	case room < 2 || d.Intn(6) == 0 && room < 20:
		return d.leaf(wide, vars, kind)
	case room < 3 || d.Intn(6) == 0:
		op := []int{impl.OpFlip, impl.OpNo}[kind-1]
		return append(d.term(wide, vars, kind, room-1), impl.Node{Op: op})
	}
	op, of := d.of(numberOps), 1
	if kind == 2 && d.Intn(2) == 0 {
		op = d.of(compareOps)
	} else if kind == 2 {
		op, of = d.of(joinOps), 2
	}
	a := d.term(wide, vars, of, 1+d.Intn(room-2))
	b := d.term(wide, vars, of, room-1-len(a))
	return append(append(a, b...), impl.Node{Op: op})
}

// nodes writes terms short: an op and its N, and so on.
func nodes(pairs ...int) []impl.Node {
	var out []impl.Node
	for k := 0; k < len(pairs); k += 2 {
		out = append(out, impl.Node{Op: pairs[k], N: uint64(pairs[k+1])})
	}
	return out
}

// partsTaken is how many parts an op takes, and of which kind, by the document's list.
func partsTaken(op int) (takes int, of int, kind int) {
	switch {
	case op == impl.OpNum || op == impl.OpVar:
		return 0, 0, 1
	case op == impl.OpYes:
		return 0, 0, 2
	case op == impl.OpFlip:
		return 1, 1, 1
	case op == impl.OpNo:
		return 1, 2, 2
	case slices.Contains(numberOps, op):
		return 2, 1, 1
	case slices.Contains(compareOps, op):
		return 2, 1, 2
	case slices.Contains(joinOps, op):
		return 2, 2, 2
	}
	return -1, 0, 0
}

// splitTerm takes a good term's parts apart from behind.
func splitTerm(t []impl.Node) [][]impl.Node {
	takes, _, _ := partsTaken(t[len(t)-1].Op)
	parts := make([][]impl.Node, takes)
	t = t[:len(t)-1]
	for k := takes - 1; k >= 0; k-- {
		from, open := len(t), 1
		for open > 0 {
			from--
			more, _, _ := partsTaken(t[from].Op)
			open += more - 1
		}
		parts[k], t = t[from:], t[:from]
	}
	return parts
}

// worth is what a good term comes to, by whole numbers.
func worth(wide int, t []impl.Node, state []uint64) uint64 {
	root := t[len(t)-1]
	switch root.Op {
	case impl.OpNum, impl.OpYes:
		return root.N
	case impl.OpVar:
		return state[root.N]
	}
	of := []uint64{0, 0}
	for k, part := range splitTerm(t) {
		of[k] = worth(wide, part, state)
	}
	return opWorth(wide, root.Op, of[0], of[1])
}

func opWorth(wide int, op int, a uint64, b uint64) uint64 {
	x, y, z := whole(a), whole(b), new(big.Int)
	switch op {
	case impl.OpAdd:
		z.Add(x, y)
	case impl.OpSub:
		z.Sub(x, y)
	case impl.OpMul:
		z.Mul(x, y)
	case impl.OpDiv:
		z.SetInt64(-1)
		if b != 0 {
			z.Div(x, y)
		}
	case impl.OpRem:
		z.Set(x)
		if b != 0 {
			z.Mod(x, y)
		}
	case impl.OpAnd:
		z.And(x, y)
	case impl.OpOr:
		z.Or(x, y)
	case impl.OpXor:
		z.Xor(x, y)
	case impl.OpLeft:
		if b < 64 {
			z.Lsh(x, uint(b))
		}
	case impl.OpRight:
		if b < 64 {
			z.Rsh(x, uint(b))
		}
	case impl.OpFlip:
		z.Sub(whole(greatest(wide)), x)
	default:
		z.SetUint64(conditionWorth(wide, op, a, b))
	}
	return modulo(wide, z)
}

func conditionWorth(wide int, op int, a uint64, b uint64) uint64 {
	holds := false
	switch op {
	case impl.OpEq:
		holds = whole(a).Cmp(whole(b)) == 0
	case impl.OpLess:
		holds = whole(a).Cmp(whole(b)) < 0
	case impl.OpLessS:
		holds = signed(wide, a).Cmp(signed(wide, b)) < 0
	case impl.OpBoth:
		holds = a+b == 2
	case impl.OpEither:
		holds = a+b > 0
	case impl.OpNo:
		holds = a != 1
	}
	if holds {
		return 1
	}
	return 0
}

// guarded is a copy of a list with more members behind its length, of which no call may know.
func guarded[T any](list []T, behind ...T) []T {
	return append(slices.Clone(list), behind...)[:len(list)]
}

// arguments are those of all calls of a chapter: all tells what lies in their memory, behind each length too, and answers makes the calls, tells what they answer, and writes that over.
type arguments interface {
	all() []any
	answers(t *testing.T) []any
}

// checkUnwritten makes each call twice with lists that have more memory behind their length; what the first one answered is written over ahead of the second.
func checkUnwritten(t *testing.T, plain, long arguments) {
	t.Helper()
	before := long.all()
	first, second, third := long.answers(t), long.answers(t), plain.answers(t)
	if !reflect.DeepEqual(first, second) || !reflect.DeepEqual(first, third) {
		t.Fatalf("%v, then %v, and without what is behind %v", first, second, third)
	}
	if !reflect.DeepEqual(before, long.all()) {
		t.Fatalf("an argument is written into: %v, then %v", before, long.all())
	}
}
