package tests

import (
	"math"
	"math/big"
	"testing"

	"loop.example/g00649/impl"
)

var badWides = []int{0, 65, 66, 128, -1, -63, -64, math.MinInt, math.MinInt + 1, math.MaxInt - 1, math.MaxInt}

var someNumbers = []uint64{
	0, 1, 2, 3, 5, 62, 63, 64, 65, 127, 255, 256, 0x55555555, 0xdeadbeef,
	math.MaxUint32, 1 << 32, 1<<32 + 1, 0x5555555555555555, 0xaaaaaaaaaaaaaaaa, 0x123456789abcdef0,
	1<<62 - 1, 1 << 62, 1<<63 - 1, 1 << 63, 1<<63 + 1, math.MaxUint64 - 1, math.MaxUint64,
}

var someSigned = []int64{
	math.MinInt64, math.MinInt64 + 1, -1 << 62, -1<<32 - 1, -1 << 32, -300, -65, -64, -9, -8, -7, -2, -1,
	0, 1, 2, 7, 8, 9, 63, 64, 300, 1 << 32, 1<<62 - 1, 1 << 62, math.MaxInt64 - 1, math.MaxInt64,
}

// power is 2 to the wide as a whole number, which uint64 doesn't hold at 64.
func power(wide int) *big.Int { return new(big.Int).Lsh(big.NewInt(1), uint(wide)) }

func whole(a uint64) *big.Int { return new(big.Int).SetUint64(a) }

func modulo(wide int, n *big.Int) uint64 {
	return new(big.Int).Mod(n, power(wide)).Uint64()
}

func greatest(wide int) uint64 {
	return new(big.Int).Sub(power(wide), big.NewInt(1)).Uint64()
}

func signed(wide int, a uint64) *big.Int {
	n := whole(a)
	if n.Bit(wide-1) == 1 {
		n.Sub(n, power(wide))
	}
	return n
}

// wordsOf has all words of a small wide; of others the edges and some between.
func wordsOf(wide int) []uint64 {
	var out []uint64
	if wide <= 4 {
		for a := uint64(0); a <= greatest(wide); a++ {
			out = append(out, a)
		}
		return out
	}
	top := modulo(wide, power(wide-1))
	out = append(out, uint64(wide-1), uint64(wide), top-1, top, top+1, greatest(wide)-1, greatest(wide))
	for _, n := range someNumbers {
		out = append(out, modulo(wide, whole(n)))
	}
	return out
}

func everyPair(f func(wide int, a, b uint64)) {
	for wide := 1; wide <= impl.MaxWide; wide++ {
		words := wordsOf(wide)
		for _, a := range words {
			for _, b := range words {
				f(wide, a, b)
			}
		}
	}
}

func TestMaxWide(t *testing.T) {
	if impl.MaxWide != 64 {
		t.Error("MaxWide", impl.MaxWide)
	}
}

func TestGoodWordAndCutTo(t *testing.T) {
	for wide := 1; wide <= impl.MaxWide; wide++ {
		for _, n := range append(wordsOf(wide), someNumbers...) {
			if got, want := impl.GoodWord(wide, n), whole(n).Cmp(power(wide)) < 0; got != want {
				t.Errorf("GoodWord(%d, %d): %v", wide, n, got)
			}
			if got, ok := impl.CutTo(wide, n); got != modulo(wide, whole(n)) || !ok {
				t.Errorf("CutTo(%d, %d): %d, %v", wide, n, got, ok)
			}
		}
		if !impl.GoodWord(wide, greatest(wide)) || wide < 64 && impl.GoodWord(wide, greatest(wide)+1) {
			t.Errorf("GoodWord(%d, ..) at the greatest word", wide)
		}
	}
}

func TestSumsAreModulo(t *testing.T) {
	kinds := []struct {
		name string
		word func(int, uint64, uint64) (uint64, bool)
		want func(z, x, y *big.Int) *big.Int
	}{
		{"AddWord", impl.AddWord, (*big.Int).Add},
		{"SubWord", impl.SubWord, (*big.Int).Sub},
		{"MulWord", impl.MulWord, (*big.Int).Mul},
	}
	for _, k := range kinds {
		everyPair(func(wide int, a, b uint64) {
			want := modulo(wide, k.want(new(big.Int), whole(a), whole(b)))
			if got, ok := k.word(wide, a, b); got != want || !ok {
				t.Errorf("%s(%d, %d, %d): %d, %v; want %d", k.name, wide, a, b, got, ok, want)
			}
		})
	}
}

func TestQuotientAndRemainderMakeTheWord(t *testing.T) {
	everyPair(func(wide int, a, b uint64) {
		q, r, ok := impl.DivWord(wide, a, b)
		if !ok || !impl.GoodWord(wide, q) || !impl.GoodWord(wide, r) {
			t.Errorf("DivWord(%d, %d, %d): %d, %d, %v", wide, a, b, q, r, ok)
		}
		if b == 0 {
			if q != greatest(wide) || r != a {
				t.Errorf("DivWord(%d, %d, 0): %d, %d", wide, a, q, r)
			}
			return
		}
		again := new(big.Int).Mul(whole(q), whole(b))
		if again.Add(again, whole(r)).Cmp(whole(a)) != 0 || r >= b {
			t.Errorf("DivWord(%d, %d, %d): %d, %d", wide, a, b, q, r)
		}
	})
}

func TestShifts(t *testing.T) {
	everyPair(func(wide int, a, by uint64) {
		up, down := uint64(0), uint64(0)
		if by < uint64(wide) {
			up = modulo(wide, new(big.Int).Lsh(whole(a), uint(by)))
			down = new(big.Int).Rsh(whole(a), uint(by)).Uint64()
		}
		if got, ok := impl.ShiftWord(wide, a, by, true); got != up || !ok {
			t.Errorf("ShiftWord(%d, %d, %d, true): %d, %v; want %d", wide, a, by, got, ok, up)
		}
		if got, ok := impl.ShiftWord(wide, a, by, false); got != down || !ok {
			t.Errorf("ShiftWord(%d, %d, %d, false): %d, %v; want %d", wide, a, by, got, ok, down)
		}
	})
}

func TestShiftsAtTheEdges(t *testing.T) {
	rows := []struct {
		wide     int
		a, by    uint64
		up, down uint64
	}{
		{1, 1, 0, 1, 1},
		{1, 1, 1, 0, 0},
		{4, 15, 0, 15, 15},
		{4, 15, 3, 8, 1},
		{4, 15, 4, 0, 0},
		{4, 15, 15, 0, 0},
		{63, 1<<63 - 1, 62, 1 << 62, 1},
		{63, 1<<63 - 1, 63, 0, 0},
		{63, 1<<63 - 1, 64, 0, 0},
		{64, math.MaxUint64, 0, math.MaxUint64, math.MaxUint64},
		{64, math.MaxUint64, 63, 1 << 63, 1},
		{64, math.MaxUint64, 64, 0, 0},
		{64, math.MaxUint64, 65, 0, 0},
		{64, math.MaxUint64, 1 << 32, 0, 0},
		{64, math.MaxUint64, math.MaxUint64, 0, 0},
	}
	for _, r := range rows {
		up, ok1 := impl.ShiftWord(r.wide, r.a, r.by, true)
		down, ok2 := impl.ShiftWord(r.wide, r.a, r.by, false)
		if up != r.up || down != r.down || !ok1 || !ok2 {
			t.Errorf("ShiftWord(%d, %d, %d, ..): %d, %d, %v, %v", r.wide, r.a, r.by, up, down, ok1, ok2)
		}
	}
}

func TestFlipWord(t *testing.T) {
	for wide := 1; wide <= impl.MaxWide; wide++ {
		for _, a := range wordsOf(wide) {
			got, ok := impl.FlipWord(wide, a)
			if got != greatest(wide)-a || !ok {
				t.Errorf("FlipWord(%d, %d): %d, %v", wide, a, got, ok)
			}
		}
	}
}

func TestSignedOf(t *testing.T) {
	for wide := 1; wide <= impl.MaxWide; wide++ {
		for _, a := range wordsOf(wide) {
			n, ok := impl.SignedOf(wide, a)
			if want := signed(wide, a).Int64(); n != want || !ok {
				t.Errorf("SignedOf(%d, %d): %d, %v; want %d", wide, a, n, ok, want)
			}
			if back, ok := impl.FromSigned(wide, n); back != a || !ok {
				t.Errorf("FromSigned(%d, %d): %d, %v; want %d", wide, n, back, ok, a)
			}
		}
	}
}

func TestSignedOfAtTheUppermostBit(t *testing.T) {
	rows := []struct {
		wide int
		a    uint64
		n    int64
	}{
		{1, 0, 0}, {1, 1, -1},
		{4, 7, 7}, {4, 8, -8}, {4, 15, -1},
		{63, 1<<62 - 1, 1<<62 - 1}, {63, 1 << 62, -1 << 62}, {63, 1<<63 - 1, -1},
		{64, 1<<63 - 1, math.MaxInt64}, {64, 1 << 63, math.MinInt64}, {64, math.MaxUint64, -1},
	}
	for _, r := range rows {
		if n, ok := impl.SignedOf(r.wide, r.a); n != r.n || !ok {
			t.Errorf("SignedOf(%d, %d): %d, %v; want %d", r.wide, r.a, n, ok, r.n)
		}
	}
}

func TestFromSignedOfAnyNumber(t *testing.T) {
	for wide := 1; wide <= impl.MaxWide; wide++ {
		for _, n := range someSigned {
			want := modulo(wide, big.NewInt(n))
			if got, ok := impl.FromSigned(wide, n); got != want || !ok {
				t.Errorf("FromSigned(%d, %d): %d, %v; want %d", wide, n, got, ok, want)
			}
		}
	}
}

func TestLessSigned(t *testing.T) {
	everyPair(func(wide int, a, b uint64) {
		want := signed(wide, a).Cmp(signed(wide, b)) < 0
		if got, ok := impl.LessSigned(wide, a, b); got != want || !ok {
			t.Errorf("LessSigned(%d, %d, %d): %v, %v; want %v", wide, a, b, got, ok, want)
		}
	})
}

// noAnswer asks for the zero answer of all that takes words.
func noAnswer(t *testing.T, wide int, a, b uint64) {
	t.Helper()
	kinds := []struct {
		name string
		word func(int, uint64, uint64) (uint64, bool)
	}{
		{"AddWord", impl.AddWord},
		{"SubWord", impl.SubWord},
		{"MulWord", impl.MulWord},
		{"ShiftWord to the upper end", func(wide int, a, b uint64) (uint64, bool) { return impl.ShiftWord(wide, a, b, true) }},
		{"ShiftWord to the lower end", func(wide int, a, b uint64) (uint64, bool) { return impl.ShiftWord(wide, a, b, false) }},
	}
	for _, k := range kinds {
		if n, ok := k.word(wide, a, b); n != 0 || ok {
			t.Errorf("%s(%d, %d, %d): %d, %v", k.name, wide, a, b, n, ok)
		}
	}
	if q, r, ok := impl.DivWord(wide, a, b); q != 0 || r != 0 || ok {
		t.Errorf("DivWord(%d, %d, %d): %d, %d, %v", wide, a, b, q, r, ok)
	}
	if is, ok := impl.LessSigned(wide, a, b); is || ok {
		t.Errorf("LessSigned(%d, %d, %d): %v, %v", wide, a, b, is, ok)
	}
}

func noAnswerOfOne(t *testing.T, wide int, a uint64) {
	t.Helper()
	if impl.GoodWord(wide, a) {
		t.Errorf("GoodWord(%d, %d)", wide, a)
	}
	if n, ok := impl.FlipWord(wide, a); n != 0 || ok {
		t.Errorf("FlipWord(%d, %d): %d, %v", wide, a, n, ok)
	}
	if n, ok := impl.SignedOf(wide, a); n != 0 || ok {
		t.Errorf("SignedOf(%d, %d): %d, %v", wide, a, n, ok)
	}
}

func TestBadWides(t *testing.T) {
	for _, wide := range badWides {
		for _, a := range someNumbers {
			noAnswerOfOne(t, wide, a)
			if n, ok := impl.CutTo(wide, a); n != 0 || ok {
				t.Errorf("CutTo(%d, %d): %d, %v", wide, a, n, ok)
			}
			for _, b := range someNumbers {
				noAnswer(t, wide, a, b)
			}
		}
		for _, n := range someSigned {
			if a, ok := impl.FromSigned(wide, n); a != 0 || ok {
				t.Errorf("FromSigned(%d, %d): %d, %v", wide, n, a, ok)
			}
		}
	}
}

func TestNoWordsOfTheirWide(t *testing.T) {
	for wide := 1; wide < impl.MaxWide; wide++ {
		for _, bad := range []uint64{greatest(wide) + 1, greatest(wide) + 2, 1 << 63, math.MaxUint64} {
			noAnswerOfOne(t, wide, bad)
			noAnswer(t, wide, bad, bad)
			for _, good := range []uint64{0, 1, greatest(wide)} {
				noAnswer(t, wide, bad, good)
				noAnswer(t, wide, good, bad)
			}
		}
	}
}
