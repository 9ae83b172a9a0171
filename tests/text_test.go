package tests

import (
	"math"
	"regexp"
	"slices"
	"strconv"
	"strings"
	"testing"
	"unsafe"

	"loop.example/g00649/impl"
)

// signTexts are the signs by the document's list.
var signTexts = map[int]string{
	impl.OpAdd: "+", impl.OpSub: "-", impl.OpMul: "*", impl.OpDiv: "/", impl.OpRem: "%",
	impl.OpAnd: "&", impl.OpOr: "|", impl.OpXor: "^", impl.OpLeft: "<<", impl.OpRight: ">>",
	impl.OpEq: "==", impl.OpLess: "<", impl.OpLessS: "<-", impl.OpBoth: "&&", impl.OpEither: "||",
	impl.OpFlip: "~", impl.OpNo: "!",
}

var (
	tokenForm  = regexp.MustCompile(`^(?:[0-9]+|[a-z]+|<<|<-|>>|==|&&|\|\||[-+*/%&|^<~!()])`)
	leafForm   = regexp.MustCompile(`^[0-9a-z]`)
	numberForm = regexp.MustCompile(`^(0|[1-9][0-9]*)$`)
)

// tokensWant finds the tokens by their form.
func tokensWant(s string) ([]impl.Token, int, bool) {
	if len(s) > 800 {
		return nil, 0, false
	}
	var out []impl.Token
	for at := 0; at < len(s); {
		if s[at] == ' ' {
			at++
			continue
		}
		text := tokenForm.FindString(s[at:])
		if text == "" {
			return nil, at, false
		}
		out = append(out, impl.Token{At: at, Text: text})
		at += len(text)
	}
	return out, 0, true
}

func leafWritten(n impl.Node) string {
	switch n.Op {
	case impl.OpNum:
		return whole(n.N).String()
	case impl.OpVar:
		return []string{"a", "b", "c", "d"}[n.N]
	}
	return []string{"no", "yes"}[n.N]
}

// wordsWritten are the tokens of a good term's text, by the document's list.
func wordsWritten(t []impl.Node) []string {
	root, parts := t[len(t)-1], splitTerm(t)
	switch len(parts) {
	case 0:
		return []string{leafWritten(root)}
	case 1:
		return append([]string{signTexts[root.Op]}, wordsWritten(parts[0])...)
	}
	return slices.Concat([]string{"("}, wordsWritten(parts[0]), []string{signTexts[root.Op]}, wordsWritten(parts[1]), []string{")"})
}

func written(t []impl.Node) string { return strings.Join(wordsWritten(t), "") }

// spaced puts blanks ahead of, between and behind words.
func spaced(d drawer, words []string) string {
	s := strings.Repeat(" ", d.Intn(3))
	for _, w := range words {
		s += w + strings.Repeat(" ", d.Intn(2))
	}
	return s
}

// piece stands on the reader's pile: a term, or a token (kind 0) that waits for what belongs to it.
type piece struct {
	impl.Token
	t    []impl.Node
	kind int
}

// shiftReader reads a term as the document says it, with a pile and without recursion.
type shiftReader struct {
	wide, vars int
	pile       []piece
	code, at   int
}

func opWritten(text string) int {
	for op, sign := range signTexts {
		if sign == text {
			return op
		}
	}
	return 0
}

func (r *shiftReader) top(below int) piece {
	if len(r.pile) <= below {
		return piece{}
	}
	return r.pile[len(r.pile)-1-below]
}

// wants is what may come next: 0 a term, 1 a sign, 2 a closing bracket, 3 nothing.
func (r *shiftReader) wants() int {
	switch {
	case len(r.pile) == 0 || r.top(0).kind == 0:
		return 0
	case len(r.pile) == 1:
		return 3
	case r.top(1).Text == "(":
		return 1
	}
	return 2
}

func (r *shiftReader) reduce(from int, sign impl.Token, parts ...piece) {
	op := opWritten(sign.Text)
	_, of, kind := partsTaken(op)
	var t []impl.Node
	for _, part := range parts {
		if part.kind != of {
			r.code, r.at = 6, sign.At
			return
		}
		t = append(t, part.t...)
	}
	r.pile = append(r.pile[:len(r.pile)-from], piece{t: append(t, impl.Node{Op: op}), kind: kind})
}

func (r *shiftReader) leaf(token impl.Token) {
	n, err := strconv.ParseUint(token.Text, 10, 64)
	name := slices.Index([]string{"a", "b", "c", "d"}[:r.vars], token.Text)
	made := piece{kind: 1}
	switch {
	case token.Text[0] <= '9':
		made.t = []impl.Node{{Op: impl.OpNum, N: n}}
		if err != nil || n > greatest(r.wide) || token.Text != whole(n).String() {
			r.code, r.at = 4, token.At
		}
	case token.Text == "yes" || token.Text == "no":
		made = piece{kind: 2, t: nodes(impl.OpYes, len(token.Text)-2)}
	case name >= 0:
		made.t = nodes(impl.OpVar, name)
	default:
		r.code, r.at = 5, token.At
	}
	r.pile = append(r.pile, made)
}

func (r *shiftReader) shift(token impl.Token) {
	op := opWritten(token.Text)
	takes, _, _ := partsTaken(op)
	wants := r.wants()
	switch {
	case wants == 0 && (token.Text == "(" || takes == 1) || wants == 1 && takes == 2:
		r.pile = append(r.pile, piece{Token: token})
		return
	case wants == 0 && leafForm.MatchString(token.Text):
		r.leaf(token)
	case wants == 2 && token.Text == ")":
		r.reduce(4, r.top(1).Token, r.top(2), r.top(0))
	default:
		r.code, r.at = 3, token.At
	}
	for r.code == 0 && (r.top(1).Text == "~" || r.top(1).Text == "!") {
		r.reduce(2, r.top(1).Token, r.top(0))
	}
}

func readWant(wide int, vars int, s string) ([]impl.Node, int, int, bool) {
	tokens, at, ok := tokensWant(s)
	switch {
	case wide < 1 || wide > 64 || vars < 1 || vars > 4 || len(s) > 800:
		return nil, 1, 0, false
	case !ok:
		return nil, 2, at, false
	}
	r := &shiftReader{wide: wide, vars: vars}
	for _, token := range tokens {
		if r.shift(token); r.code != 0 {
			return nil, r.code, r.at, false
		}
	}
	switch {
	case r.wants() != 3:
		return nil, 3, len(s), false
	case len(r.top(0).t) > 48:
		return nil, 7, 0, false
	}
	return r.top(0).t, 0, 0, true
}

// checkRead holds ReadTerm against the other reader, and asks for promise 3 at this text.
func checkRead(t *testing.T, wide int, vars int, s string) int {
	t.Helper()
	got, code, at, ok := impl.ReadTerm(wide, vars, s)
	want, wantCode, wantAt, wantOk := readWant(wide, vars, s)
	if !sameNodes(got, want) || code != wantCode || at != wantAt || ok != wantOk {
		t.Fatalf("ReadTerm(%d, %d, %q): %v, %d, %d, %v; want %v, %d, %d, %v", wide, vars, s, got, code, at, ok, want, wantCode, wantAt, wantOk)
	}
	if ok {
		text, isText := impl.TermText(wide, vars, got)
		if !isText || text != strings.ReplaceAll(s, " ", "") || !impl.GoodTerm(wide, vars, got) {
			t.Fatalf("%q is read as %v, of which the text is %q, %v", s, got, text, isText)
		}
	} else if at < 0 || at > len(s) || len(got) != 0 {
		t.Fatalf("ReadTerm(%d, %d, %q): %v with code %d at %d", wide, vars, s, got, code, at)
	}
	return code
}

func TestTextConstants(t *testing.T) {
	if impl.MaxText != 800 {
		t.Error(impl.MaxText)
	}
}

func TestNumTextAndReadNum(t *testing.T) {
	cases := map[uint64]string{
		0: "0", 1: "1", 9: "9", 10: "10", 11: "11", 99: "99", 100: "100", 120: "120",
		1<<63 - 1: "9223372036854775807", 1 << 63: "9223372036854775808",
		9999999999999999999: "9999999999999999999", 10000000000000000000: "10000000000000000000",
		math.MaxUint64 - 1: "18446744073709551614", math.MaxUint64: "18446744073709551615",
	}
	d := newDrawer(21)
	for range 500 {
		n := d.Uint64() >> d.Intn(64)
		cases[n] = whole(n).String()
	}
	for n, s := range cases {
		if got := impl.NumText(n); got != s {
			t.Errorf("NumText(%d): %q", n, got)
		}
		if got, ok := impl.ReadNum(s); got != n || !ok {
			t.Errorf("ReadNum(%q): %d, %v", s, got, ok)
		}
	}
}

func TestReadNumOfNoNumber(t *testing.T) {
	for _, s := range []string{
		"", "00", "01", "012", "0000000000000000000", "00000000000000000000", "00000000000000000001", "000000000000000000000",
		"+1", "-1", "+0", "-0", "+", "-", " 1", "1 ", " ", "1 2", "1_0", "1,0", "1.", "1.0", "1e3", "0x1", "0b1", "0o7", "1\n", "\x001", "1\x00",
		"18446744073709551616", "18446744073709551620", "20000000000000000000", "99999999999999999999",
		"018446744073709551615", "184467440737095516150", "184467440737095516151", "100000000000000000000",
		"a", "1a", "a1", "\xff", "1\xff", "\u0661", "1\u0662", "\uff11", "\u00b2", strings.Repeat("1", 5000), strings.Repeat("\xff", 20),
	} {
		if n, ok := impl.ReadNum(s); n != 0 || ok {
			t.Errorf("ReadNum(%q): %d, %v", s, n, ok)
		}
	}
	for b := range 256 {
		s := string([]byte{byte(b)})
		n, ok := impl.ReadNum(s)
		if is := b >= '0' && b <= '9'; ok != is || is && n != uint64(b-'0') || !is && n != 0 {
			t.Errorf("ReadNum(%q): %d, %v", s, n, ok)
		}
	}
}

func TestNameOf(t *testing.T) {
	for k, want := range []string{"a", "b", "c", "d"} {
		if s, ok := impl.NameOf(k); s != want || !ok {
			t.Errorf("NameOf(%d): %q, %v", k, s, ok)
		}
	}
	for _, k := range []int{-1, 4, 5, -2, 26, 256, -256, math.MinInt, math.MaxInt} {
		if s, ok := impl.NameOf(k); s != "" || ok {
			t.Errorf("NameOf(%d): %q, %v", k, s, ok)
		}
	}
}

func checkTokens(t *testing.T, s string) bool {
	t.Helper()
	got, at, ok := impl.TokensOf(s)
	want, wantAt, wantOk := tokensWant(s)
	if !slices.Equal(got, want) || at != wantAt || ok != wantOk {
		t.Fatalf("TokensOf(%q): %v, %d, %v; want %v, %d, %v", s, got, at, ok, want, wantAt, wantOk)
	}
	return ok
}

func TestTokensOfByHand(t *testing.T) {
	rows := []struct {
		text  string
		at    []int
		texts []string
	}{
		{"", nil, nil},
		{" ", nil, nil},
		{"     ", nil, nil},
		{"(a<-10)", []int{0, 1, 2, 4, 6}, []string{"(", "a", "<-", "10", ")"}},
		{"  ( a  + 1 ) ", []int{2, 4, 7, 9, 11}, []string{"(", "a", "+", "1", ")"}},
		{"12ab34yes", []int{0, 2, 4, 6}, []string{"12", "ab", "34", "yes"}},
		{"1 2", []int{0, 2}, []string{"1", "2"}},
		{"ye s", []int{0, 3}, []string{"ye", "s"}},
		{"az09", []int{0, 2}, []string{"az", "09"}},
		{"<<<", []int{0, 2}, []string{"<<", "<"}},
		{"<<<<", []int{0, 2}, []string{"<<", "<<"}},
		{"<<-", []int{0, 2}, []string{"<<", "-"}},
		{"<-<", []int{0, 2}, []string{"<-", "<"}},
		{"<--", []int{0, 2}, []string{"<-", "-"}},
		{"< <", []int{0, 2}, []string{"<", "<"}},
		{"< -", []int{0, 2}, []string{"<", "-"}},
		{"-<", []int{0, 1}, []string{"-", "<"}},
		{"&&&", []int{0, 2}, []string{"&&", "&"}},
		{"& &", []int{0, 2}, []string{"&", "&"}},
		{"|||", []int{0, 2}, []string{"||", "|"}},
		{"| |", []int{0, 2}, []string{"|", "|"}},
		{"&|", []int{0, 1}, []string{"&", "|"}},
		{"====", []int{0, 2}, []string{"==", "=="}},
		{">>>>", []int{0, 2}, []string{">>", ">>"}},
		{"<==", []int{0, 1}, []string{"<", "=="}},
		{"<>>", []int{0, 1}, []string{"<", ">>"}},
		{"!==", []int{0, 1}, []string{"!", "=="}},
		{"~~!!", []int{0, 1, 2, 3}, []string{"~", "~", "!", "!"}},
		{"))((", []int{0, 1, 2, 3}, []string{")", ")", "(", "("}},
		{"+-*/%^", []int{0, 1, 2, 3, 4, 5}, []string{"+", "-", "*", "/", "%", "^"}},
	}
	for _, r := range rows {
		got, at, ok := impl.TokensOf(r.text)
		var want []impl.Token
		for k := range r.at {
			want = append(want, impl.Token{At: r.at[k], Text: r.texts[k]})
		}
		if !slices.Equal(got, want) || at != 0 || !ok {
			t.Errorf("TokensOf(%q): %v, %d, %v", r.text, got, at, ok)
		}
	}
}

func TestTokensOfEverySign(t *testing.T) {
	all := []string{"(", ")", "0", "9", "a", "z", "007", "yes"}
	for _, sign := range signTexts {
		all = append(all, sign)
	}
	for _, s := range all {
		if got, at, ok := impl.TokensOf(s); !slices.Equal(got, []impl.Token{{Text: s}}) || at != 0 || !ok {
			t.Errorf("TokensOf(%q): %v, %d, %v", s, got, at, ok)
		}
		for _, u := range all {
			checkTokens(t, s+u)
			checkTokens(t, s+" "+u)
		}
	}
}

// The place of a fault is marked by @ ahead of its byte.
func TestTokensOfNoToken(t *testing.T) {
	for _, marked := range []string{
		"@=", "a@=", "(a@=1)", "==@=", "====@=", "==@= =", "@= =", "a @=", "<@=", "<<@=", "&@=", "!@=", "~@=",
		"@>", "a@>b", ">>@>", "<@>", "@>=", "@> >",
		"@A", "a@B", "@Z", "a@_b", "@.", "1@.5", "@,", "@;", "@[a]", "@{", "a@?", "@#", "@$", "@\"", "@'", "@`", "@\\", "@:",
		"@\t", "a@\tb", "a@\n", "@\r", "a@\x00", "@\x7f", "@\x80", "a@\xff", "a @\xc3", "1@\xe2\x82",
		"@\u00e9", "a@\u00e9", "@\u00a0", "a@\u3000", "@\u03b1", "1@\u0661", "@\uff41", "(a@\u2212b)", "a@\ufffd", "@\U0001d7d8", "@\u017f",
		"a @= \xff", "a @\xff =", "   @A", "((((@}",
	} {
		at := strings.Index(marked, "@")
		s := marked[:at] + marked[at+1:]
		if got, place, ok := impl.TokensOf(s); len(got) != 0 || place != at || ok {
			t.Errorf("TokensOf(%q): %v, %d, %v; want %d", s, got, place, ok, at)
		}
		if got, code, place, ok := impl.ReadTerm(4, 2, s); len(got) != 0 || code != 2 || place != at || ok {
			t.Errorf("ReadTerm(4, 2, %q): %v, %d, %d, %v; want 2, %d", s, got, code, place, ok, at)
		}
	}
}

func TestTokensOfEveryByte(t *testing.T) {
	begins := " 0123456789abcdefghijklmnopqrstuvwxyz+-*/%&|^<~!()"
	for b := range 256 {
		s := string([]byte{byte(b)})
		if ok := checkTokens(t, s); ok != strings.Contains(begins, s) {
			t.Errorf("byte %d: %v", b, ok)
		}
		for c := range 256 {
			two := s + string([]byte{byte(c)})
			checkTokens(t, two)
			checkTokens(t, "a "+two+" 1")
		}
	}
}

func TestTokensOfTheLimit(t *testing.T) {
	for _, unit := range []string{" ", "a", "7", "(", "<<", "<-", "a ", "1a", "~", "=="} {
		s := strings.Repeat(unit, impl.MaxText/len(unit))
		if len(s) != impl.MaxText || !checkTokens(t, s) {
			t.Errorf("%q up to MaxText", unit)
		}
		for _, more := range []string{" ", "a", ")", "=", "\xff"} {
			if got, at, ok := impl.TokensOf(s + more); len(got) != 0 || at != 0 || ok {
				t.Errorf("%q beyond MaxText: %v, %d, %v", unit, got, at, ok)
			}
		}
		for _, last := range []string{"=", ">", "\xff", "A"} {
			if got, at, ok := impl.TokensOf(strings.Repeat(" ", impl.MaxText-1) + last); len(got) != 0 || at != impl.MaxText-1 || ok {
				t.Errorf("%q as the last byte: %v, %d, %v", last, got, at, ok)
			}
		}
	}
	if got, at, ok := impl.TokensOf("a=" + strings.Repeat(" ", impl.MaxText)); len(got) != 0 || at != 0 || ok {
		t.Error("a fault in a text that is too long", got, at, ok)
	}
}

func TestTokensOfDrawnTexts(t *testing.T) {
	d := newDrawer(22)
	alphabet := "  ()~!+-*/%&&||^<<>>==0189abyz\t=>A\xff"
	counts := map[bool]int{}
	for range 20000 {
		s := ""
		for range d.Intn(8) {
			k := d.Intn(len(alphabet))
			s += alphabet[k : k+1]
		}
		counts[checkTokens(t, s)]++
	}
	if counts[true] < 2000 || counts[false] < 2000 {
		t.Error("too few of one sort", counts)
	}
}

func TestTermTextOfEachOp(t *testing.T) {
	for op, sign := range signTexts {
		takes, of, _ := partsTaken(op)
		part, text := nodes(impl.OpVar, 3), "d"
		if of == 2 {
			part, text = nodes(impl.OpYes, 0), "no"
		}
		u, want := append(slices.Clone(part), impl.Node{Op: op}), sign+text
		if takes == 2 {
			first, head := nodes(impl.OpNum, 10), "10"
			if of == 2 {
				first, head = nodes(impl.OpYes, 1), "yes"
			}
			u, want = slices.Concat(first, part, []impl.Node{{Op: op}}), "("+head+sign+text+")"
		}
		if got, ok := impl.TermText(4, 4, u); got != want || !ok {
			t.Errorf("TermText(4, 4, %v): %q, %v; want %q", u, got, ok, want)
		}
		if got, code, at, ok := impl.ReadTerm(4, 4, want); !sameNodes(got, u) || code != 0 || at != 0 || !ok {
			t.Errorf("ReadTerm(4, 4, %q): %v, %d, %d, %v", want, got, code, at, ok)
		}
	}
	leaves := map[string][]impl.Node{
		"a": nodes(impl.OpVar, 0), "b": nodes(impl.OpVar, 1), "c": nodes(impl.OpVar, 2), "d": nodes(impl.OpVar, 3),
		"yes": nodes(impl.OpYes, 1), "no": nodes(impl.OpYes, 0), "0": nodes(impl.OpNum, 0), "1": nodes(impl.OpNum, 1), "15": nodes(impl.OpNum, 15),
	}
	for want, u := range leaves {
		if got, ok := impl.TermText(4, 4, u); got != want || !ok {
			t.Errorf("TermText(4, 4, %v): %q, %v; want %q", u, got, ok, want)
		}
		if got, code, at, ok := impl.ReadTerm(4, 4, want); !sameNodes(got, u) || code != 0 || at != 0 || !ok {
			t.Errorf("ReadTerm(4, 4, %q): %v, %d, %d, %v", want, got, code, at, ok)
		}
	}
}

func TestTermTextByHand(t *testing.T) {
	cases := map[string][]impl.Node{
		"((a+1)<3)":        nodes(impl.OpVar, 0, impl.OpNum, 1, impl.OpAdd, 0, impl.OpNum, 3, impl.OpLess, 0),
		"(a-(b-1))":        nodes(impl.OpVar, 0, impl.OpVar, 1, impl.OpNum, 1, impl.OpSub, 0, impl.OpSub, 0),
		"((a-b)-1)":        nodes(impl.OpVar, 0, impl.OpVar, 1, impl.OpSub, 0, impl.OpNum, 1, impl.OpSub, 0),
		"~~(~a<<~1)":       nodes(impl.OpVar, 0, impl.OpFlip, 0, impl.OpNum, 1, impl.OpFlip, 0, impl.OpLeft, 0, impl.OpFlip, 0, impl.OpFlip, 0),
		"!((a<-b)&&!yes)":  nodes(impl.OpVar, 0, impl.OpVar, 1, impl.OpLessS, 0, impl.OpYes, 1, impl.OpNo, 0, impl.OpBoth, 0, impl.OpNo, 0),
		"(no||((a&b)==0))": nodes(impl.OpYes, 0, impl.OpVar, 0, impl.OpVar, 1, impl.OpAnd, 0, impl.OpNum, 0, impl.OpEq, 0, impl.OpEither, 0),
	}
	for want, u := range cases {
		if got, ok := impl.TermText(4, 2, u); got != want || !ok {
			t.Errorf("TermText(4, 2, %v): %q, %v; want %q", u, got, ok, want)
		}
		if got, code, at, ok := impl.ReadTerm(4, 2, want); !sameNodes(got, u) || code != 0 || at != 0 || !ok {
			t.Errorf("ReadTerm(4, 2, %q): %v, %d, %d, %v", want, got, code, at, ok)
		}
	}
}

// Promise 3, from the term to its text and back.
func TestTermsAreReadBack(t *testing.T) {
	everyTerm(23, 3000, func(d drawer, wide, vars int, u []impl.Node) {
		text, ok := impl.TermText(wide, vars, u)
		if text != written(u) || !ok {
			t.Fatalf("TermText(%d, %d, %v): %q, %v", wide, vars, u, text, ok)
		}
		for _, s := range []string{text, spaced(d, wordsWritten(u)), " " + text + "  "} {
			if len(s) > impl.MaxText {
				continue
			}
			got, code, at, ok := impl.ReadTerm(wide, vars, s)
			if !sameNodes(got, u) || code != 0 || at != 0 || !ok {
				t.Fatalf("ReadTerm(%d, %d, %q): %v, %d, %d, %v; want %v", wide, vars, s, got, code, at, ok, u)
			}
		}
	})
}

// No good term's text is longer than this one: 24 numbers of 20 digits, 23 signs of two bytes in brackets, and one sign more.
func TestTermTextOfTheLongest(t *testing.T) {
	most := impl.Node{Op: impl.OpNum, N: math.MaxUint64}
	u := []impl.Node{most}
	for range 23 {
		u = append(u, most, impl.Node{Op: impl.OpLeft})
	}
	u = append(u, impl.Node{Op: impl.OpFlip})
	text, ok := impl.TermText(64, 1, u)
	if len(u) != impl.MaxNodes || len(text) != 24*20+23*4+1 || !ok {
		t.Fatal(len(u), len(text), ok)
	}
	s := strings.Repeat(" ", impl.MaxText-len(text)) + text
	if got, code, at, ok := impl.ReadTerm(64, 1, s); !sameNodes(got, u) || code != 0 || at != 0 || !ok {
		t.Error(got, code, at, ok)
	}
	if got, code, at, ok := impl.ReadTerm(64, 1, " "+s); len(got) != 0 || code != 1 || at != 0 || ok {
		t.Error("one byte more", got, code, at, ok)
	}
}

func TestReadTermArguments(t *testing.T) {
	long := strings.Repeat(" ", impl.MaxText)
	for _, s := range []string{"a", "1", "yes", "", "(a+b)", "=", "\xff", ")", "01", "zz", "!a", strings.Repeat("~", 60) + "a", long, long + "a"} {
		for _, wide := range badWides {
			if got, code, at, ok := impl.ReadTerm(wide, 2, s); len(got) != 0 || code != 1 || at != 0 || ok {
				t.Errorf("ReadTerm(%d, 2, %q): %v, %d, %d, %v", wide, s, got, code, at, ok)
			}
		}
		for _, vars := range badVars {
			if got, code, at, ok := impl.ReadTerm(4, vars, s); len(got) != 0 || code != 1 || at != 0 || ok {
				t.Errorf("ReadTerm(4, %d, %q): %v, %d, %d, %v", vars, s, got, code, at, ok)
			}
		}
		if got, code, at, ok := impl.ReadTerm(4, 2, s+long+" "); len(got) != 0 || code != 1 || at != 0 || ok {
			t.Errorf("a longer text: %v, %d, %d, %v", got, code, at, ok)
		}
	}
	for _, s := range []string{"a" + long[1:], long[1:] + "a", " ~" + long[3:] + "a"} {
		if checkRead(t, 4, 2, s) != 0 || checkRead(t, 4, 2, s+" ") != 1 {
			t.Errorf("a text of %d bytes, and of one more", len(s))
		}
	}
	if checkRead(t, 1, 1, "(a+1)") != 0 || checkRead(t, 64, 4, "(d+18446744073709551615)") != 0 {
		t.Error("the least and the greatest wide and vars")
	}
}

// The place of the fault is marked by @ ahead of its token; wide 4, 2 variables.
var markedFaults = map[int][]string{
	3: {
		"@", "  @", "(@", "(a@", "(a  @", "(a+@", "(a+1@", "(a<1 @", "~@", "!@", "~~ @", "((a+b)@", "((a+b)<@", "(!yes&&@",
		"@)", "@+", "@+a", "@-1", "@&&", "@==", "@<-", " @<<", "(@)", "(@+a)", "((@))", "~@)", "!@&&", "~@-1", "(a+@+b)", "(a+@)", "(a< @-1)",
		"(a@)", "(a @b)", "(a@1)", "(a @01)", "(a @zz)", "(a@~b)", "(a@!b)", "(a@(b))", "(yes @yes)",
		"(a+b@+1)", "(a+b@", "(a+1 @2)", "(a+1@a)", "(a+1@(", "(a+b @~", "(a & @& b)", "(yes && no@&&yes)",
		"a @b", "a @a", "1 @2", "1@a", "a @1", "yes @no", "a@)", "(a+1)@)", "(a+1)@+1", "(a+1) @(a+1)", "a@+1", "yes@&&no", "a @01", "a @zz", "~a@~", "!no @!a", "1@(",
	},
	4: {
		"@00", "@01", "@007", "~@00", "(a+@00)", "(@01+a)", "@16", "@17", "@99", "(a+@16)", "(a + @16)", "~@16", "@100000", "(@16+16)",
		"@18446744073709551615", "@18446744073709551616", "@99999999999999999999", "@184467440737095516150", "(a<@000000000000000000001)", "@" + strings.Repeat("1", 700),
	},
	5: {
		"@c", "@d", "@e", "@z", "@aa", "@ab", "@ba", "@y", "@ye", "@yess", "@yesno", "@noyes", "@n", "@nno", "@yesa", "@noo", "@on", "@sey",
		"(a+@c)", "(@c+a)", "~@d", "!@true", "!@maybe", "(a + @bb)", " @x", "(yes&&@not)", "@" + strings.Repeat("a", 700),
	},
	6: {
		"@!a", "@!1", "@~yes", "@~no", "~@~yes", "!@!a", "@~!yes", "@!~a", "!@~yes", "~@!a", "@!(a+b)", "@~(a<b)", " @! a", "~ @~ no",
		"(yes@+a)", "(a@+yes)", "(yes@+no)", "(a@&&b)", "(yes@==no)", "( a @|| yes )", "((a+b)@&&yes)", "(yes@||(a+b))", "((a<b)@+1)", "((a<b)@<3)", "(a@<(b<a))", "(a@<-(b==a))",
	},
}

// In these texts stand two faults or more; the first that is met is marked.
var markedFirst = map[int][]string{
	2: {"(c+16)@=", "(yes+a) @\xff", "01@=", ") @A", "!a @>", "~~yes@[", "(a@=01", "@=)", strings.Repeat("~", 60) + "a@="},
	3: {
		"(yes+a@", "(yes+a @a)", "(a&&b @b)", "(yes+no@+16)", "(a+yes@!", "(!yes+a@", "@) 16", "(a+1)@)16", "(a @16 zz)", "a @zz 16", "(@) !a", "(yes @yes+a)", "a @!a",
		"(yes+(a+b)@", "(yes+(a&&b@", strings.Repeat("~", 60) + "@", strings.Repeat("~", 60) + "a @b", "(" + strings.Repeat("~", 60) + "a@",
	},
	4: {"(@16+c)", "(@01", "(@16)", "(@00+yes)", "(yes+@16)", "!@16", "~@16 a", "((a+1)+@16", "(yes+(a+@99))", "(a<@16 zz)", strings.Repeat("~", 60) + "@16"},
	5: {"(@c+16)", "(@e", "(@zz)", "(@c+yes)", "(yes+@zz)", "!@zz", "~@zz )", "(yes&&(a&&@x))", strings.Repeat("!", 60) + "@c"},
	6: {
		"(@!a+16)", "(@~yes zz)", "(@!a", "@!a b", "@!a)", "@~yes ~no", "((yes@+a)+16)", "((yes@+a)", "(yes@+a))", "(yes@+a) 16", "(yes@+a)(", "((a@+yes)&&(b+yes))", "(a&&(b@+yes))", "(yes+(a@&&b))",
		"!(yes@+a)", "~(yes@+a)", "((yes@+a)zz", "(@!a", "(yes&&@!a", "(@~no+c)", strings.Repeat("~", 59) + "@~yes", "(" + strings.Repeat("~", 60) + "a@&&yes)", "(a@+!" + strings.Repeat("!", 60) + "yes)",
	},
}

func TestReadTermFaults(t *testing.T) {
	for _, group := range []map[int][]string{markedFaults, markedFirst} {
		for code, list := range group {
			for _, marked := range list {
				at := strings.Index(marked, "@")
				s := marked[:at] + marked[at+1:]
				got, gotCode, gotAt, ok := impl.ReadTerm(4, 2, s)
				if len(got) != 0 || gotCode != code || gotAt != at || ok {
					t.Errorf("ReadTerm(4, 2, %q): %v, %d, %d, %v; want %d, %d", s, got, gotCode, gotAt, ok, code, at)
				}
				checkRead(t, 4, 2, s)
			}
		}
	}
}

func TestReadTermNumbersOfEachWide(t *testing.T) {
	for wide := 1; wide <= 64; wide++ {
		top := whole(greatest(wide))
		beyond := power(wide).String()
		if got, code, at, ok := impl.ReadTerm(wide, 1, top.String()); len(got) != 1 || got[0] != (impl.Node{Op: impl.OpNum, N: top.Uint64()}) || code != 0 || at != 0 || !ok {
			t.Errorf("wide %d: %v, %d, %d, %v", wide, got, code, at, ok)
		}
		if got, code, at, ok := impl.ReadTerm(wide, 1, "(a+"+beyond+")"); len(got) != 0 || code != 4 || at != 3 || ok {
			t.Errorf("wide %d, one more: %v, %d, %d, %v", wide, got, code, at, ok)
		}
	}
}

func TestReadTermNamesOfEachVars(t *testing.T) {
	for vars := 1; vars <= impl.MaxVars; vars++ {
		for k := range 26 {
			name := string(rune('a' + k))
			got, code, at, ok := impl.ReadTerm(4, vars, " ~"+name)
			if k < vars && (!sameNodes(got, nodes(impl.OpVar, k, impl.OpFlip, 0)) || code != 0 || at != 0 || !ok) {
				t.Errorf("%s of %d: %v, %d, %d, %v", name, vars, got, code, at, ok)
			}
			if k >= vars && (len(got) != 0 || code != 5 || at != 2 || ok) {
				t.Errorf("%s of %d: %v, %d, %d, %v", name, vars, got, code, at, ok)
			}
		}
	}
}

func TestReadTermKindsOfEachOp(t *testing.T) {
	parts := map[string]int{"a": 1, "15": 1, "(a+b)": 1, "~b": 1, "yes": 2, "no": 2, "(a<b)": 2, "!no": 2}
	for op, sign := range signTexts {
		takes, of, kind := partsTaken(op)
		for x, first := range parts {
			if takes == 1 {
				got, code, at, ok := impl.ReadTerm(4, 2, " "+sign+x+" ")
				if is := first == of; ok != is || is != (code == 0) || !is && (code != 6 || at != 1 || len(got) != 0) {
					t.Errorf("%s%s: %v, %d, %d, %v", sign, x, got, code, at, ok)
				}
				continue
			}
			for y, second := range parts {
				s := "(" + x + " " + sign + " " + y + ")"
				got, code, at, ok := impl.ReadTerm(4, 2, s)
				is := first == of && second == of
				if ok != is || is != (code == 0) || !is && (code != 6 || at != len(x)+2 || len(got) != 0) {
					t.Errorf("%s: %v, %d, %d, %v", s, got, code, at, ok)
				}
				if k, _ := impl.KindOf(4, 2, got); is && k != kind {
					t.Errorf("%s: kind %d", s, k)
				}
			}
		}
	}
}

func TestReadTermAtTheNodeLimit(t *testing.T) {
	good := map[string][]impl.Node{
		strings.Repeat("~", 47) + "a":                  flipped(48),
		strings.Repeat("!", 47) + "yes":                denied(48),
		strings.Repeat("! ", 47) + "yes":               denied(48),
		strings.Repeat("(", 23) + "a" + sums(23):       summed(24),
		"~" + strings.Repeat("(", 23) + "a" + sums(23): append(summed(24), impl.Node{Op: impl.OpFlip}),
	}
	for s, want := range good {
		if got, code, at, ok := impl.ReadTerm(4, 2, s); !sameNodes(got, want) || code != 0 || at != 0 || !ok {
			t.Errorf("%q: %v, %d, %d, %v", s, got, code, at, ok)
		}
	}
	for _, s := range []string{
		strings.Repeat("~", 48) + "a", strings.Repeat("!", 48) + "yes", strings.Repeat("~", 799) + "a", "  " + strings.Repeat("~", 48) + " a ",
		strings.Repeat("(", 24) + "a" + sums(24), "~~" + strings.Repeat("(", 23) + "a" + sums(23), strings.Repeat("(", 199) + "a" + sums(199),
	} {
		if got, code, at, ok := impl.ReadTerm(4, 2, s); len(got) != 0 || code != 7 || at != 0 || ok {
			t.Errorf("%q: %v, %d, %d, %v", s, got, code, at, ok)
		}
	}
	for _, unit := range []string{"(", "~", "!", "~(", "(!"} {
		s := strings.Repeat(unit, impl.MaxText/len(unit))
		if got, code, at, ok := impl.ReadTerm(4, 2, s); len(got) != 0 || code != 3 || at != impl.MaxText || ok {
			t.Errorf("%q again and again: %v, %d, %d, %v", unit, got, code, at, ok)
		}
	}
}

func sums(count int) string { return strings.Repeat("+a)", count) }

// scrambled changes some words of a text, or some of its bytes.
func scrambled(d drawer, words []string) string {
	words = slices.Clone(words)
	some := []string{"(", ")", "~", "!", "+", "-", "<", "<-", "<<", ">>", "==", "&&", "||", "&", "a", "b", "d", "0", "1", "00", "16", "yes", "no", "nes", "18446744073709551616", "="}
	for range 1 + d.Intn(2) {
		k := d.Intn(len(words))
		switch d.Intn(5) {
		case 0:
			words[k] = some[d.Intn(len(some))]
		case 1:
			words = slices.Insert(words, k, some[d.Intn(len(some))])
		case 2:
			words = slices.Insert(words, len(words), some[d.Intn(len(some))])
		case 3:
			m := d.Intn(len(words))
			words[k], words[m] = words[m], words[k]
		case 4:
			words = append(words[:k:k], words[min(k+1, len(words)-1):]...)
		}
	}
	s := spaced(d, words)
	if d.Intn(3) == 0 && s != "" {
		k := d.Intn(len(s))
		alphabet := "()~!+-*/%&|^<>=01ab \xff"
		s = s[:k] + string(alphabet[d.Intn(len(alphabet))]) + s[k+d.Intn(2):]
	}
	return s
}

// Promise 3, from a text: what is read is the text of what is answered, and else there is a place in it.
func TestReadTermOfDrawnTexts(t *testing.T) {
	counts := map[int]int{}
	for _, seed := range []int64{24, 25} {
		everyTerm(seed, 12000, func(d drawer, wide, vars int, u []impl.Node) {
			if seed == 24 {
				u = d.term(wide, vars, 1+d.Intn(2), 1+d.Intn(9))
			}
			counts[checkRead(t, wide, vars, scrambled(d, wordsWritten(u)))]++
		})
	}
	for code := range 7 {
		if code != 1 && counts[code] < 400 {
			t.Error("too few of one code", counts)
		}
	}
}

func TestReadTermOfAnyBytes(t *testing.T) {
	d := newDrawer(26)
	for range 3000 {
		b := make([]byte, d.Intn(12))
		d.Read(b)
		if d.Intn(20) == 0 {
			b = append(b, make([]byte, 795+d.Intn(10))...)
		}
		s := string(b)
		checkTokens(t, s)
		checkRead(t, 1+d.Intn(64), 1+d.Intn(4), s)
		checkRead(t, d.Intn(68)-1, d.Intn(7)-1, s)
		if n, ok := impl.ReadNum(s); ok != numberForm.MatchString(s) || ok && impl.NumText(n) != s {
			t.Errorf("ReadNum(%q): %d, %v", s, n, ok)
		}
	}
}

func depthWant(t []impl.Node) int {
	most := 0
	for _, part := range splitTerm(t) {
		most = max(most, depthWant(part))
	}
	return most + 1
}

func TestDepthOf(t *testing.T) {
	everyTerm(27, 1500, func(_ drawer, wide, vars int, u []impl.Node) {
		if got, ok := impl.DepthOf(wide, vars, u); got != depthWant(u) || !ok {
			t.Errorf("DepthOf(%d, %d, %v): %d, %v", wide, vars, u, got, ok)
		}
	})
	cases := map[string]int{
		"a": 1, "15": 1, "yes": 1, "~a": 2, "!no": 2, "(a+b)": 2, "(yes&&no)": 2, "~~a": 3, "((a+1)<3)": 3, "(3<(a+1))": 3,
		"((a+b)+(a+b))": 3, "(((a+b)+1)+~a)": 4, "(~a+(1+(a+b)))": 4, strings.Repeat("~", 47) + "a": 48, strings.Repeat("(", 23) + "a" + sums(23): 24,
	}
	for s, want := range cases {
		u, _, _, ok := impl.ReadTerm(4, 2, s)
		if got, ok2 := impl.DepthOf(4, 2, u); got != want || !ok || !ok2 {
			t.Errorf("DepthOf %s: %d, %v, %v", s, got, ok, ok2)
		}
	}
}

func TestTextsAtWrongTerms(t *testing.T) {
	silentText := func(name string, wide int, vars int, u []impl.Node) {
		if s, ok := impl.TermText(wide, vars, u); s != "" || ok {
			t.Errorf("%s: text %q, %v", name, s, ok)
		}
		if n, ok := impl.DepthOf(wide, vars, u); n != 0 || ok {
			t.Errorf("%s: depth %d, %v", name, n, ok)
		}
	}
	for name, u := range notGood {
		silentText(name, 4, 2, u)
	}
	silentText("nil", 4, 2, nil)
	for _, u := range [][]impl.Node{nodes(impl.OpVar, 0), nodes(impl.OpNum, 0), nodes(impl.OpYes, 0)} {
		for _, wide := range badWides {
			silentText("bad wide", wide, 2, u)
		}
		for _, vars := range badVars {
			silentText("bad vars", 4, vars, u)
		}
	}
}

func TestTextsWriteIntoNoArgument(t *testing.T) {
	everyTerm(28, 400, func(d drawer, wide, vars int, u []impl.Node) {
		behind := []impl.Node{{Op: impl.OpFlip}, {Op: impl.OpNo}, {Op: 99, N: 99}, {Op: impl.OpVar}}
		a := guarded(u, behind...)
		before := slices.Clone(a[:cap(a)])
		text, _ := impl.TermText(wide, vars, a)
		depth, _ := impl.DepthOf(wide, vars, a)
		if text != written(u) || depth != depthWant(u) || !sameNodes(before, a[:cap(a)]) {
			t.Fatalf("%v with more behind: %q, %d, and then %v", u, text, depth, a[:cap(a)])
		}
		first, _, _, _ := impl.ReadTerm(wide, vars, text)
		spent(first)
		if second, _, _, _ := impl.ReadTerm(wide, vars, text); !sameNodes(second, u) {
			t.Fatalf("ReadTerm(%d, %d, %q), once more: %v", wide, vars, text, second)
		}
		tokens, _, _ := impl.TokensOf(text)
		tokens = tokens[:cap(tokens)]
		for k := range tokens {
			tokens[k] = impl.Token{At: -7, Text: "="}
		}
		checkTokens(t, text)
	})
}

func TestTokensAreNewMemory(t *testing.T) {
	s := strings.Clone("((alpha+12345)<<~yes)")
	from := uintptr(unsafe.Pointer(unsafe.StringData(s)))
	tokens, _, _ := impl.TokensOf(s)
	for _, token := range tokens {
		at := uintptr(unsafe.Pointer(unsafe.StringData(token.Text)))
		if at >= from && at < from+uintptr(len(s)) {
			t.Errorf("%q shares the text's memory", token.Text)
		}
	}
}
