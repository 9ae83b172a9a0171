package tests

import (
	"slices"
	"strings"
	"testing"

	"loop.example/g00649/impl"
)

// faultIn is the first byte of a text that can't go on, with a pile of what is still waited for: f a formula, j a sign that joins, ) itself; -1 where all is right.
func faultIn(s string) int {
	wait := []byte("f")
	for k := range len(s) {
		if len(wait) == 0 {
			return k
		}
		top, c := wait[len(wait)-1], s[k]
		rest := wait[:len(wait)-1]
		switch {
		case top == 'f' && isOf(saidLeaves, c), top == 'j' && isOf(saidJoins, c), top == ')' && c == ')':
			wait = rest
		case top == 'f' && c == '(':
			wait = append(rest, ")fjf"...)
		case top != 'f' || !isOf(saidTurns, c):
			return k
		}
	}
	if len(wait) > 0 {
		return len(s)
	}
	return -1
}

// nodesIn is how many nodes a text has, where all is right.
func nodesIn(s string) int { return len(s) - strings.Count(s, "(") - strings.Count(s, ")") }

// checkReadSaid tells of what sort the text is.
func checkReadSaid(t *testing.T, s string) string {
	t.Helper()
	f, at, ok := impl.ReadSaid(s)
	sort, want := "read", len(s)
	switch fault := faultIn(s); {
	case len(s) > 200:
		sort, want = "long", 0
	case fault >= 0:
		sort, want = "fault", fault
	case nodesIn(s) > 16:
		sort, want = "nodes", 0
	}
	if at != want || ok != (sort == "read") || !ok && len(f) != 0 {
		t.Fatalf("ReadSaid(%q): %v, %d, %v; want %d, %s", s, f, at, ok, want, sort)
	}
	if ok && (!goodSaidWant(f) || saidWritten(f) != s || !sameSaid(f, said(s))) {
		t.Fatalf("%q is read as %v", s, f)
	}
	if ok {
		oneTold(t, s, "SaidText", f)(impl.SaidText(f))
	}
	return sort
}

func checkNotRead(t *testing.T, s string, want int) {
	t.Helper()
	if f, at, ok := impl.ReadSaid(s); len(f) != 0 || at != want || ok {
		t.Errorf("ReadSaid(%q): %v, %d, %v, not %d", s, f, at, ok, want)
	}
	checkReadSaid(t, s)
}

func TestSaidTextByHand(t *testing.T) {
	for text, f := range map[string][]impl.Said{
		"p":         {{Op: impl.FAtom}},
		"q":         {{Op: impl.FAtom, N: 1}},
		"r":         {{Op: impl.FAtom, N: 2}},
		"1":         {{Op: impl.FYes, N: 1}},
		"0":         {{Op: impl.FYes}},
		"!p":        {{Op: impl.FAtom}, {Op: impl.FNot}},
		"Xq":        {{Op: impl.FAtom, N: 1}, {Op: impl.FNext}},
		"X!r":       {{Op: impl.FAtom, N: 2}, {Op: impl.FNot}, {Op: impl.FNext}},
		"!X1":       {{Op: impl.FYes, N: 1}, {Op: impl.FNext}, {Op: impl.FNot}},
		"(p&q)":     {{Op: impl.FAtom}, {Op: impl.FAtom, N: 1}, {Op: impl.FAnd}},
		"(q|p)":     {{Op: impl.FAtom, N: 1}, {Op: impl.FAtom}, {Op: impl.FOr}},
		"(rU0)":     {{Op: impl.FAtom, N: 2}, {Op: impl.FYes}, {Op: impl.FUntil}},
		"(0Rr)":     {{Op: impl.FYes}, {Op: impl.FAtom, N: 2}, {Op: impl.FRelease}},
		"((p&q)Ur)": {{Op: impl.FAtom}, {Op: impl.FAtom, N: 1}, {Op: impl.FAnd}, {Op: impl.FAtom, N: 2}, {Op: impl.FUntil}},
		"(pU(q&r))": {{Op: impl.FAtom}, {Op: impl.FAtom, N: 1}, {Op: impl.FAtom, N: 2}, {Op: impl.FAnd}, {Op: impl.FUntil}},
		"!(Xp|!q)":  {{Op: impl.FAtom}, {Op: impl.FNext}, {Op: impl.FAtom, N: 1}, {Op: impl.FNot}, {Op: impl.FOr}, {Op: impl.FNot}},
	} {
		oneTold(t, text, "SaidText", f)(impl.SaidText(f))
		if g, at, ok := impl.ReadSaid(text); !sameSaid(g, f) || at != len(text) || !ok {
			t.Errorf("ReadSaid(%q): %v, %d, %v", text, g, at, ok)
		}
		checkReadSaid(t, text)
	}
}

// Texts that end too early: the length.
func TestReadSaidOfTextsThatEndTooEarly(t *testing.T) {
	for _, s := range []string{"", "!", "X", "!X", "XX!", "(", "((", "(p", "(pU", "(pUq", "(!", "(!p", "(!pU!", "((p&q)", "((p&q)U", "((p&q)Ur", "(p|(q", "(p|(qRr", "(p|(qRr)", "!(1", "X(0&"} {
		checkNotRead(t, s, len(s))
	}
	for _, whole := range []string{"(p&q)", "(p|q)", "(pUq)", "(pRq)", "!p", "Xq", "!!X0", "((1U!p)R(X!q&(0|r)))"} {
		for end := range whole {
			checkNotRead(t, whole[:end], end)
		}
	}
}

// Texts with a byte that can't go on: its place.
func TestReadSaidOfBytesThatCanNotGoOn(t *testing.T) {
	for s, at := range map[string]int{
		")": 0, "&": 0, "U": 0, "R": 0, "|": 0, "s": 0, "2": 0, "a": 0, "P": 0, "x": 0, "u": 0, "?": 0, "~": 0, "\x00": 0, "\xff": 0, "\n": 0, "é": 0,
		"!)": 1, "!&": 1, "!U": 1, "XU": 1, "X)": 1, "Xx": 1, "X2": 1, "!!?": 2,
		"()": 1, "(&": 1, "(Up": 1, "(p)": 2, "(pp": 2, "(p!": 2, "(pX": 2, "(p(": 2, "(p1": 2, "(!p)": 3, "(1)": 2,
		"(p&)": 3, "(p&&": 3, "(p&U": 3, "(p||q)": 3, "(pU!)": 4, "(pUX)": 4,
		"(p&q&": 4, "(p&qU": 4, "(p&qp": 4, "(p&q!": 4, "(p&q(": 4, "(p&qX)": 4, "(p&q&r)": 4,
		"((p&q))": 6, "((p&q)&)": 7, "((p&q)(": 6, "(p&(q))": 5, "(p&(q|r)|": 8,
		"(p<q)": 2, "(p^q)": 2, "(puq)": 2, "(p&&q)": 3, "(p==q)": 2, "(p\x00q)": 2, "(p\xffq)": 2, "[pUq]": 0,
	} {
		if at == len(s) {
			t.Errorf("%q ends too early", s)
		}
		checkNotRead(t, s+strings.Repeat(")", 3), at)
		if at < len(s) {
			checkNotRead(t, s, at)
		}
	}
}

// Texts that go on behind their end: the place of the first byte there.
func TestReadSaidOfTextsThatGoOn(t *testing.T) {
	for _, whole := range []string{"p", "r", "1", "0", "!p", "X1", "XX!q", "(p&q)", "(p|q)", "(pUq)", "(pRq)", "!(pUq)", "X(0R1)", "((p&q)|r)"} {
		for _, more := range []string{"p", "1", "!", "X", "(", ")", "&", "U", "&q", "Uq", "))", "(pUq)", " ", "\n", "\x00", "\xff", "pp", "!p"} {
			checkNotRead(t, whole+more, len(whole))
		}
	}
}

func TestReadSaidOfBlanks(t *testing.T) {
	for s, at := range map[string]int{
		" ": 0, "  ": 0, " p": 0, "p ": 1, "! p": 1, "!p ": 2, "X p": 1, "( p&q)": 1, "(p &q)": 2, "(p& q)": 3, "(p&q )": 4, "(p&q) ": 5, " (p&q)": 0,
		"\tp": 0, "p\n": 1, "(p\r&q)": 2,
	} {
		checkNotRead(t, s, at)
	}
}

// joined is a text of so many atoms, joined.
func joined(atoms int) string {
	return strings.Repeat("(", atoms-1) + "p" + strings.Repeat("Uq)", atoms-1)
}

func TestReadSaidAtTheNodeLimit(t *testing.T) {
	for _, s := range []string{strings.Repeat("!", 15) + "p", strings.Repeat("X", 15) + "0", strings.Repeat("!X", 7) + "!q", joined(8), "!" + joined(8), "((p&q)|(((Xp&1)U(!p&1))R!q))"} {
		if sort := checkReadSaid(t, s); sort != "read" || nodesIn(s) < 15 {
			t.Errorf("%q, of %d nodes: %s", s, nodesIn(s), sort)
		}
	}
	for _, s := range []string{strings.Repeat("!", 16) + "p", strings.Repeat("X", 16) + "0", joined(9), "!!" + joined(8), "X!" + joined(8), "X!X!X!!X!X!XX!X(p&q)", strings.Repeat("!", 199) + "p", joined(50), "!!" + joined(50)} {
		if sort := checkReadSaid(t, s); sort != "nodes" {
			t.Errorf("%q, of %d nodes: %s", s, nodesIn(s), sort)
		}
		checkNotRead(t, s, 0)
	}
	// with a fault that is told, however many nodes there are
	for s, at := range map[string]int{
		strings.Repeat("!", 16): 16, strings.Repeat("!", 17): 17, strings.Repeat("X", 40): 40,
		strings.Repeat("!", 16) + "pp": 17, strings.Repeat("!", 16) + "p)": 17, strings.Repeat("!", 30) + ")": 30, strings.Repeat("!", 16) + " p": 16,
		joined(9) + ")": 33, joined(9) + " ": 33, joined(9)[:32]: 32, joined(9)[:32] + "&": 32, "(" + joined(9): 34, "(" + joined(9) + "!": 34,
		joined(8) + "&p": 29, strings.Repeat("(p&", 20): 60, strings.Repeat("(p&", 20) + "q": 61, strings.Repeat("(p&", 20) + "qq": 61,
	} {
		checkNotRead(t, s, at)
	}
}

func TestReadSaidAtTheTextLimit(t *testing.T) {
	for _, unit := range []string{"!", "X", "(", "((", "(p&", "!(", "p", ")", " ", "\x00", "(pU(", "(p|q)"} {
		for _, length := range []int{199, 200} {
			checkReadSaid(t, strings.Repeat(unit, 200)[:length])
		}
		for _, length := range []int{201, 202, 400} {
			long := strings.Repeat(unit, 400)[:length]
			checkNotRead(t, long, 0)
			if sort := checkReadSaid(t, long); sort != "long" {
				t.Errorf("%q: %s", long, sort)
			}
		}
	}
	checkNotRead(t, strings.Repeat("!", 200), 200)
	checkNotRead(t, strings.Repeat("(", 200), 200)
	checkNotRead(t, strings.Repeat("!", 199)+")", 199)
	checkNotRead(t, strings.Repeat("X", 199)+"p", 0)
	checkNotRead(t, strings.Repeat("X", 200)+"p", 0)
	checkNotRead(t, strings.Repeat("X", 200)+")", 0)
	checkNotRead(t, "p"+strings.Repeat(" ", 199), 1)
	checkNotRead(t, "p"+strings.Repeat(" ", 200), 0)
	checkNotRead(t, strings.Repeat("p", 1<<20), 0)
}

// All texts of few bytes.
func TestReadSaidOfShortTexts(t *testing.T) {
	counts := map[string]int{}
	var all func(s string, more int)
	all = func(s string, more int) {
		counts[checkReadSaid(t, s)]++
		if more > 0 {
			for _, c := range "pr01!X&|UR() " {
				all(s+string(c), more-1)
			}
		}
	}
	all("", 5)
	leaves := 4
	turned := leaves * (1 + 2 + 4 + 8 + 16)
	if counts["read"] != turned+leaves*leaves*4 || counts["fault"] < 300000 {
		t.Error(counts)
	}
}

// Each byte at each place of a text.
func TestReadSaidOfEachByte(t *testing.T) {
	for _, whole := range []string{"p", "!q", "(pU1)", "((Xp&q)R!(0|r))"} {
		for at := range len(whole) + 1 {
			for c := range 256 {
				checkReadSaid(t, whole[:at]+string([]byte{byte(c)})+whole[at:])
				if at < len(whole) {
					checkReadSaid(t, whole[:at]+string([]byte{byte(c)})+whole[at+1:])
				}
			}
		}
	}
}

// A formula is read back from its text.
func TestSaidTextOfDrawnFormulas(t *testing.T) {
	sizes := map[int]int{}
	everySaid(250, 5000, func(_ drawer, f []impl.Said) {
		text := saidWritten(f)
		oneTold(t, text, "SaidText", f)(impl.SaidText(f))
		if g, at, ok := impl.ReadSaid(text); !sameSaid(g, f) || at != len(text) || !ok {
			t.Errorf("ReadSaid(%q): %v, %d, %v, not %v", text, g, at, ok, f)
		}
		sizes[len(f)]++
	})
	for size := 1; size <= 16; size++ {
		if sizes[size] < 40 {
			t.Error("too few of a size", size, sizes)
		}
	}
}

// spoiledText has a byte or two changed, put in or taken out.
func (d drawer) spoiledText(s string) string {
	b := []byte(s)
	for range 1 + d.Intn(2) {
		k := d.Intn(len(b) + 1)
		c := "pqr01!X&|UR()) sx\x00"[d.Intn(18)]
		switch d.Intn(4) {
		case 0:
			b = slices.Insert(b, k, c)
		case 1:
			b = b[:k]
		case 2:
			b = append(b[:min(k, len(b)/2)], b[k:]...)
		case 3:
			if k < len(b) {
				b[k] = c
			}
		}
	}
	return string(b)
}

func TestReadSaidOfDrawnTexts(t *testing.T) {
	counts := map[string]int{}
	d := newDrawer(251)
	for range 12000 {
		text := saidWritten(d.said(1+d.Intn(16), allSigns))
		for d.Intn(3) == 0 && len(text) < 120 {
			text = "(" + text + string(saidJoins[d.Intn(4)]) + saidWritten(d.said(1+d.Intn(16), allSigns)) + ")"
		}
		if d.Intn(4) > 0 {
			text = d.spoiledText(text)
		}
		counts[checkReadSaid(t, text)]++
	}
	for sort, least := range map[string]int{"read": 2000, "fault": 4000, "nodes": 500} {
		if counts[sort] < least {
			t.Error("too few of a sort", sort, counts)
		}
	}
}

func TestReadSaidOfAnyBytes(t *testing.T) {
	d := newDrawer(252)
	for range 3000 {
		b := make([]byte, d.Intn(12))
		d.Read(b)
		checkReadSaid(t, string(b))
		checkReadSaid(t, "(p&"+string(b)+")")
		checkReadSaid(t, strings.Repeat("X", d.Intn(210))+string(b))
	}
}
