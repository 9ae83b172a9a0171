package impl

const MaxWide = 64

// The mask of a wide has just that many bits set, the lowest ones. The last
// one is the whole of uint64: counted up as constants it needs no shift by 64.
const (
	maskOf0 uint64 = 1<<iota - 1
	maskOf1
	maskOf2
	maskOf3
	maskOf4
	maskOf5
	maskOf6
	maskOf7
	maskOf8
	maskOf9
	maskOf10
	maskOf11
	maskOf12
	maskOf13
	maskOf14
	maskOf15
	maskOf16
	maskOf17
	maskOf18
	maskOf19
	maskOf20
	maskOf21
	maskOf22
	maskOf23
	maskOf24
	maskOf25
	maskOf26
	maskOf27
	maskOf28
	maskOf29
	maskOf30
	maskOf31
	maskOf32
	maskOf33
	maskOf34
	maskOf35
	maskOf36
	maskOf37
	maskOf38
	maskOf39
	maskOf40
	maskOf41
	maskOf42
	maskOf43
	maskOf44
	maskOf45
	maskOf46
	maskOf47
	maskOf48
	maskOf49
	maskOf50
	maskOf51
	maskOf52
	maskOf53
	maskOf54
	maskOf55
	maskOf56
	maskOf57
	maskOf58
	maskOf59
	maskOf60
	maskOf61
	maskOf62
	maskOf63
	maskOf64
)

// Its row 0 is no wide's mask: a word of wide 1 holds its uppermost bit
// against it.
var wordMasks = [MaxWide + 1]uint64{
	maskOf0, maskOf1, maskOf2, maskOf3, maskOf4, maskOf5, maskOf6, maskOf7,
	maskOf8, maskOf9, maskOf10, maskOf11, maskOf12, maskOf13, maskOf14, maskOf15,
	maskOf16, maskOf17, maskOf18, maskOf19, maskOf20, maskOf21, maskOf22, maskOf23,
	maskOf24, maskOf25, maskOf26, maskOf27, maskOf28, maskOf29, maskOf30, maskOf31,
	maskOf32, maskOf33, maskOf34, maskOf35, maskOf36, maskOf37, maskOf38, maskOf39,
	maskOf40, maskOf41, maskOf42, maskOf43, maskOf44, maskOf45, maskOf46, maskOf47,
	maskOf48, maskOf49, maskOf50, maskOf51, maskOf52, maskOf53, maskOf54, maskOf55,
	maskOf56, maskOf57, maskOf58, maskOf59, maskOf60, maskOf61, maskOf62, maskOf63,
	maskOf64,
}

func goodWide(wide int) bool { return wide >= 1 && wide <= MaxWide }

func goodWords(wide int, a uint64, b uint64) bool {
	return GoodWord(wide, a) && GoodWord(wide, b)
}

// signedBits takes good words only. All bits above the word become like
// its uppermost one, which is how int64 has numbers below 0.
func signedBits(wide int, a uint64) int64 {
	if a > wordMasks[wide-1] {
		return int64(a | ^wordMasks[wide])
	}
	return int64(a)
}

func GoodWord(wide int, a uint64) bool {
	return goodWide(wide) && a <= wordMasks[wide]
}

func CutTo(wide int, a uint64) (uint64, bool) {
	if !goodWide(wide) {
		return 0, false
	}
	return a & wordMasks[wide], true
}

// What uint64 wraps round at is a multiple of 2 to the wide, so cutting
// behind the sum, difference or product loses nothing.

func AddWord(wide int, a uint64, b uint64) (uint64, bool) {
	if !goodWords(wide, a, b) {
		return 0, false
	}
	return CutTo(wide, a+b)
}

func SubWord(wide int, a uint64, b uint64) (uint64, bool) {
	if !goodWords(wide, a, b) {
		return 0, false
	}
	return CutTo(wide, a-b)
}

func MulWord(wide int, a uint64, b uint64) (uint64, bool) {
	if !goodWords(wide, a, b) {
		return 0, false
	}
	return CutTo(wide, a*b)
}

func DivWord(wide int, a uint64, b uint64) (uint64, uint64, bool) {
	if !goodWords(wide, a, b) {
		return 0, 0, false
	}
	if b == 0 {
		return wordMasks[wide], a, true
	}
	return a / b, a % b, true
}

func ShiftWord(wide int, a uint64, by uint64, left bool) (uint64, bool) {
	if !goodWords(wide, a, by) {
		return 0, false
	}
	if by >= uint64(wide) {
		return 0, true
	}
	if left {
		return CutTo(wide, a<<by)
	}
	return a >> by, true
}

func FlipWord(wide int, a uint64) (uint64, bool) {
	if !GoodWord(wide, a) {
		return 0, false
	}
	return a ^ wordMasks[wide], true
}

func SignedOf(wide int, a uint64) (int64, bool) {
	if !GoodWord(wide, a) {
		return 0, false
	}
	return signedBits(wide, a), true
}

func FromSigned(wide int, n int64) (uint64, bool) {
	return CutTo(wide, uint64(n))
}

func LessSigned(wide int, a uint64, b uint64) (bool, bool) {
	if !goodWords(wide, a, b) {
		return false, false
	}
	return signedBits(wide, a) < signedBits(wide, b), true
}
