package tests

import (
	"slices"
	"testing"

	"loop.example/g00649/impl"
)

// pushWant makes for each node, from the front, both what says the same and what says the contrary, with a pile of these.
func pushWant(f []impl.Said, not bool) []impl.Said {
	var pile [][2][]impl.Said
	node := func(op, n int) []impl.Said { return []impl.Said{{Op: op, N: n}} }
	joins := map[int]int{impl.FAnd: impl.FOr, impl.FOr: impl.FAnd, impl.FUntil: impl.FRelease, impl.FRelease: impl.FUntil}
	for _, n := range f {
		rest := len(pile) - saidTaken(n.Op)
		parts := pile[rest:]
		var made [2][]impl.Said
		switch n.Op {
		case impl.FAtom:
			made = [2][]impl.Said{{n}, {n, {Op: impl.FNot}}}
		case impl.FYes:
			made = [2][]impl.Said{{n}, {{Op: impl.FYes, N: 1 - n.N}}}
		case impl.FNot:
			made = [2][]impl.Said{parts[0][1], parts[0][0]}
		case impl.FNext:
			made = [2][]impl.Said{slices.Concat(parts[0][0], node(n.Op, 0)), slices.Concat(parts[0][1], node(n.Op, 0))}
		default:
			same := slices.Concat(parts[0][0], parts[1][0], node(n.Op, 0))
			made = [2][]impl.Said{same, slices.Concat(parts[0][1], parts[1][1], node(joins[n.Op], 0))}
		}
		pile = append(pile[:rest], made)
	}
	if not {
		return pile[0][1]
	}
	return pile[0][0]
}

// pushedWant looks at what stands behind each FNot of the text.
func pushedWant(text string) bool {
	for k := range text {
		if text[k] == '!' && !isOf("pqr", text[k+1]) {
			return false
		}
	}
	return true
}

func checkPush(t *testing.T, text string, not bool, want string) {
	t.Helper()
	saidTold(t, said(want), "PushNot", text, not)(impl.PushNot(said(text), not))
}

func checkIsPushed(t *testing.T, text string, want bool) {
	t.Helper()
	oneTold(t, want, "IsPushed", text)(impl.IsPushed(said(text)))
}

// Of each formula what says the same, and what says the contrary.
func TestPushNotByHand(t *testing.T) {
	for text, want := range map[string][2]string{
		"p": {"p", "!p"}, "q": {"q", "!q"}, "r": {"r", "!r"},
		"1": {"1", "0"}, "0": {"0", "1"},
		"Xp": {"Xp", "X!p"}, "X1": {"X1", "X0"}, "XXq": {"XXq", "XX!q"},
		"(p&q)": {"(p&q)", "(!p|!q)"}, "(p|q)": {"(p|q)", "(!p&!q)"},
		"(pUq)": {"(pUq)", "(!pR!q)"}, "(pRq)": {"(pRq)", "(!pU!q)"},
		"(1U0)": {"(1U0)", "(0R1)"}, "(0&r)": {"(0&r)", "(1|!r)"},
		"!p": {"!p", "p"}, "!1": {"0", "1"}, "!0": {"1", "0"},
		"!!p": {"p", "!p"}, "!!!p": {"!p", "p"}, "!!1": {"1", "0"}, "!!!0": {"1", "0"},
		"!Xp": {"X!p", "Xp"}, "X!p": {"X!p", "Xp"}, "!X!p": {"Xp", "X!p"}, "X!!p": {"Xp", "X!p"}, "X!1": {"X0", "X1"},
		"!(p&q)": {"(!p|!q)", "(p&q)"}, "!(p|q)": {"(!p&!q)", "(p|q)"},
		"!(pUq)": {"(!pR!q)", "(pUq)"}, "!(pRq)": {"(!pU!q)", "(pRq)"}, "!!(pUq)": {"(pUq)", "(!pR!q)"},
		"(!pUq)": {"(!pUq)", "(pR!q)"}, "(pU!q)": {"(pU!q)", "(!pRq)"},
		"(!(p&q)Ur)": {"((!p|!q)Ur)", "((p&q)R!r)"}, "(pR!(qUr))": {"(pR(!qR!r))", "(!pU(qUr))"},
		"(p&!(q|!r))": {"(p&(!q&r))", "(!p|(q|!r))"}, "!(!p&!X!(qR1))": {"(p|X(!qU0))", "(!p&X(qR1))"},
	} {
		checkPush(t, text, false, want[0])
		checkPush(t, text, true, want[1])
		checkPush(t, "!"+text, false, want[1])
		checkPush(t, "!"+text, true, want[0])
	}
}

func TestPushNotAtTheNodeLimit(t *testing.T) {
	checkPush(t, "XXXXXXXXXXXXXXXp", false, "XXXXXXXXXXXXXXXp")
	checkPush(t, "XXXXXXXXXXXXXXp", true, "XXXXXXXXXXXXXX!p")
	checkPush(t, "XXXXXXXXXXXXXX!p", true, "XXXXXXXXXXXXXXp")
	checkPush(t, "!XXXXXXXXXXXXXXp", false, "XXXXXXXXXXXXXX!p")
	checkPush(t, "!!!!!!!!!!!!!!!p", false, "!p")
	checkPush(t, "!!!!!!!!!!!!!!!p", true, "p")
	checkPush(t, "XXXXXXXXXXXXXXX1", true, "XXXXXXXXXXXXXXX0")
	// five atoms with four joins have 9 nodes; the contrary of each atom has one more
	checkPush(t, "XX((pUq)&((rRp)|q))", true, "XX((!pR!q)|((!rU!p)&!q))")
	checkPush(t, "!XX((pUq)&((rRp)|q))", false, "XX((!pR!q)|((!rU!p)&!q))")
	checkPush(t, "!(X(p&q)U(X(!r|p)R!!q))", true, "(X(p&q)U(X(!r|p)Rq))")
	for _, f := range [][]impl.Said{said("XX((pUq)&((rRp)|q))"), said("(X(p&q)U(X(!r|p)Rq))")} {
		if g, ok := impl.PushNot(turned(f, 'X', 1), true); ok != (len(g) == 16) || ok != (len(pushWant(f, true)) == 15) {
			t.Error("one node more", g, ok)
		}
	}
	checkPush(t, "XXX((pUq)&((rRp)|q))", false, "XXX((pUq)&((rRp)|q))")
	noSaidTold(t, "17 nodes")(impl.PushNot(said("XXX((pUq)&((rRp)|q))"), true))
	noSaidTold(t, "17 nodes")(impl.PushNot(said("!XXX((pUq)&((rRp)|q))"), false))
	noSaidTold(t, "17 nodes")(impl.PushNot(said("XXXXXXXXXXXXXXXp"), true))
	noSaidTold(t, "23 nodes")(impl.PushNot(said("(((p&q)&(r&p))&((p&q)&(r&p)))"), true))
	checkPush(t, "(((1&q)&(0&1))&((1&0)&(1&0)))", true, "(((0|!q)|(1|0))|((0|1)|(0|1)))")
}

func TestIsPushedByHand(t *testing.T) {
	for text, want := range map[string]bool{
		"p": true, "1": true, "0": true, "Xp": true, "(pUq)": true,
		"!p": true, "!q": true, "!r": true, "X!p": true, "(!pU!q)": true, "(p&!q)": true, "(1RX!r)": true,
		"!1": false, "!0": false, "X!1": false, "(pU!0)": false, "(!1|p)": false,
		"!!p": false, "!!!p": false, "!!1": false, "(p&!!q)": false, "(!!pUq)": false,
		"!Xp": false, "X!Xp": false, "!(p&q)": false, "!(p|q)": false, "!(pUq)": false, "!(pRq)": false,
		"(!(pUq)&!r)": false, "(!r&!(pUq))": false, "(!(p&q)Ur)": false, "X(pR!(!q|r))": false,
	} {
		checkIsPushed(t, text, want)
	}
}

// What is pushed has FNot ahead of atoms alone, and says the same, or the contrary, at each place.
func TestPushNotOfDrawnFormulas(t *testing.T) {
	counts := map[string]int{}
	d := newDrawer(240)
	for range 4000 {
		f := d.said(1+d.Intn(16), allSigns+"!!!!!")
		l := d.lasso()
		isPushed := pushedWant(saidWritten(f))
		oneTold(t, isPushed, "IsPushed", saidWritten(f))(impl.IsPushed(f))
		for _, not := range []bool{false, true} {
			want := pushWant(f, not)
			if len(want) > 16 {
				counts["too long"]++
				noSaidTold(t, "PushNot", saidWritten(f), not)(impl.PushNot(f, not))
				continue
			}
			saidTold(t, want, "PushNot", saidWritten(f), not)(impl.PushNot(f, not))
			got, _ := impl.PushNot(f, not)
			oneTold(t, true, "IsPushed", saidWritten(want))(impl.IsPushed(got))
			saidTold(t, got, "PushNot of what is pushed")(impl.PushNot(got, false))
			for _, k := range d.somePlaces(l) {
				is, _ := impl.HoldsAt(f, l, k)
				checkHoldsAt(t, got, l, k, is != not)
			}
			if !not && isPushed != sameSaid(f, got) {
				t.Errorf("%s is pushed: %v, but becomes %s", saidWritten(f), isPushed, saidWritten(got))
			}
			counts[map[bool]string{true: "contrary", false: "same"}[not]]++
		}
		counts[map[bool]string{true: "pushed already", false: "not pushed"}[isPushed]]++
	}
	for sort, least := range map[string]int{"too long": 80, "contrary": 2000, "same": 2000, "pushed already": 1000, "not pushed": 1000} {
		if counts[sort] < least {
			t.Error("too few of a sort", sort, counts)
		}
	}
}
