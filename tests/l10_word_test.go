package tests

import (
	"fmt"
	"math"
	"slices"
	"strconv"
	"strings"
	"testing"

	"loop.example/g00085/impl"
)

// wordLayout is a line of the chapter's table, and how many bits of the
// exponent stand behind the five.
type wordLayout struct {
	format                int64
	digits                int
	least, greatest, bias int64
	rest                  int
}

var wordLayouts = []wordLayout{
	{impl.Fm64, 16, -398, 369, 398, 8},
	{impl.Fm128, 34, -6176, 6111, 6176, 12},
}

// noFormats are near the two, or would be one of them in fewer bits.
var noFormats = []int64{
	0, 1, 2, 16, 32, -1, -64, -128, 63, 65, 127, 129, 256, 1<<32 | 64, 1<<32 | 128, 1<<8 | 64,
	math.MinInt64, math.MaxInt64, math.MinInt64 | 64,
}

var noKinds = []int64{0, 5, -1, -2, 6, 255, 257, 1<<32 | 1, math.MinInt64, math.MaxInt64}

// packedText is the answer of Pack64 or Pack128 as a text of all bits.
func packedText(l wordLayout, n impl.Num) (string, bool) {
	if l.format == impl.Fm64 {
		word, fine := impl.Pack64(n)
		return fmt.Sprintf("%064b", word), fine
	}
	w, fine := impl.Pack128(n)
	return fmt.Sprintf("%064b%064b", w.Hi, w.Lo), fine
}

func unpackedText(t *testing.T, l wordLayout, bits string) impl.Num {
	t.Helper()
	if l.format == impl.Fm64 {
		return impl.Unpack64(wordOfText(t, bits))
	}
	return impl.Unpack128(impl.Wide{Hi: wordOfText(t, bits[:64]), Lo: wordOfText(t, bits[64:])})
}

func wordOfText(t *testing.T, bits string) uint64 {
	t.Helper()
	word, err := strconv.ParseUint(bits, 2, 64)
	if err != nil || len(bits) != 64 {
		t.Fatalf("%d bits, %v", len(bits), err)
	}
	return word
}

func oneOrNought(is bool) string {
	if is {
		return "1"
	}
	return "0"
}

// reckonedBits writes the chapter's bits of a right Num, part behind part.
func reckonedBits(t *testing.T, rows []decletRow, l wordLayout, n impl.Num) string {
	t.Helper()
	five, behind := "", ""
	switch n.Kind {
	case impl.NkInf:
		five = "11110"
	case impl.NkNan:
		five = "11111"
	case impl.NkSignal:
		five, behind = "11111", "1"
	default:
		digits := strings.Repeat("0", l.digits-len(n.Digits)) + n.Digits
		e := fmt.Sprintf("%0*b", 2+l.rest, n.Exp+l.bias)
		switch digits[0] {
		case '8', '9':
			five = "11" + e[:2] + oneOrNought(digits[0] == '9')
		default:
			five = e[:2] + fmt.Sprintf("%03b", digits[0]-'0')
		}
		behind = e[2:]
		for digits = digits[1:]; digits != ""; digits = digits[3:] {
			number, _ := strconv.ParseInt(digits[:3], 10, 64)
			behind += fmt.Sprintf("%010b", writtenDeclet(t, rows, number))
		}
	}
	bits := oneOrNought(n.Neg) + five + behind
	return bits + strings.Repeat("0", int(l.format)-len(bits))
}

// reckonedNum reads any bits as the chapter tells it.
func reckonedNum(t *testing.T, rows []decletRow, l wordLayout, bits string) impl.Num {
	t.Helper()
	neg, five, rest, declets := bits[0] == '1', bits[1:6], bits[6:6+l.rest], bits[6+l.rest:]
	switch {
	case five == "11110":
		return impl.Num{Kind: impl.NkInf, Neg: neg}
	case five == "11111" && rest[0] == '1':
		return impl.Num{Kind: impl.NkSignal}
	case five == "11111":
		return impl.Num{Kind: impl.NkNan}
	}
	h, first := five[:2], five[2:]
	if h == "11" {
		h, first = five[2:4], "100"+five[4:]
	}
	e, _ := strconv.ParseInt(h+rest, 2, 64)
	f, _ := strconv.ParseInt(first, 2, 64)
	digits := strconv.FormatInt(f, 10)
	for ; declets != ""; declets = declets[10:] {
		declet, _ := strconv.ParseInt(declets[:10], 2, 64)
		digits += fmt.Sprintf("%03d", readDeclet(t, rows, declet))
	}
	for len(digits) > 1 && digits[0] == '0' {
		digits = digits[1:]
	}
	return impl.Num{Kind: impl.NkFinite, Neg: neg, Exp: e - l.bias, Digits: digits}
}

// someExps are both bounds, the middle, and where each of the two highest bits
// of the exponent turns.
func someExps(l wordLayout) []int64 {
	turn := int64(1) << l.rest
	return []int64{
		l.least, l.least + 1, l.greatest - 1, l.greatest, -2, -1, 0, 1,
		turn - 1 - l.bias, turn - l.bias, 2*turn - 1 - l.bias, 2*turn - l.bias,
	}
}

// someDigitTexts begin with each digit, with and without noughts that stand
// ahead in the word, at every length.
func someDigitTexts(l wordLayout) []string {
	texts := []string{"0"}
	for length := 1; length <= l.digits; length++ {
		for first := 1; first <= 9; first++ {
			head := strconv.Itoa(first)
			for _, tail := range []string{"0", "9", "8", "7", "1234567890", "80297", "998"} {
				texts = append(texts, head+strings.Repeat(tail, l.digits)[:length-1])
			}
		}
	}
	slices.Sort(texts)
	return slices.Compact(texts)
}

func finite(neg bool, digits string, exp int64) impl.Num {
	return impl.Num{Kind: impl.NkFinite, Neg: neg, Exp: exp, Digits: digits}
}

func specialNums() []impl.Num {
	return []impl.Num{{Kind: impl.NkInf}, {Kind: impl.NkInf, Neg: true}, {Kind: impl.NkNan}, {Kind: impl.NkSignal}}
}

func rightNums(l wordLayout) []impl.Num {
	nums := specialNums()
	for _, digits := range someDigitTexts(l) {
		for _, exp := range someExps(l) {
			nums = append(nums, finite(false, digits, exp), finite(true, digits, exp))
		}
	}
	return nums
}

// wrongNums are not right in the format, each for one cause alone.
func wrongNums(l wordLayout) []impl.Num {
	nums := []impl.Num{{}}
	for _, kind := range noKinds {
		nums = append(nums, impl.Num{Kind: kind}, impl.Num{Kind: kind, Digits: "1"}, impl.Num{Kind: kind, Neg: true, Exp: 1, Digits: "0"})
	}
	full := strings.Repeat("9", l.digits)
	wrongDigits := []string{
		"", "00", "01", "0" + full[1:], strings.Repeat("0", l.digits), "0" + full, full + "9", full + "0",
		"1" + strings.Repeat("0", l.digits), strings.Repeat("1", 35), strings.Repeat("7", 1000),
		"/", ":", "1/", "1:", "/1", ":1", "1/2", "1:2", full[1:] + "/", full[1:] + ":", ":" + full[1:], "a", "A", "-1", "+1", " 1", "1 ",
		"1.5", "1e5", "\x00", "1\x00", "\xff", "1\xb0", "\u0661", "\uff11", "1\u0660", "0x1", "1_0", "\n1",
	}
	for _, digits := range wrongDigits {
		nums = append(nums, finite(false, digits, 0), finite(true, digits, l.least), finite(false, digits, l.greatest))
	}
	wrongExps := []int64{
		l.least - 1, l.greatest + 1, l.least - 2, l.greatest + 2, -100000, 100000, l.least - 1<<10, l.greatest + 1<<10, 1 << 16, -1 << 16,
		1 << 32, -1 << 32, l.least - 1<<16, l.greatest + 1<<16, math.MinInt64, math.MinInt64 + 1, math.MaxInt64 - 1, math.MaxInt64,
		math.MaxInt64 - l.bias, math.MinInt64 + l.bias,
	}
	for _, exp := range wrongExps {
		nums = append(nums, finite(false, "0", exp), finite(true, "1", exp), finite(false, full, exp))
	}
	for _, kind := range []int64{impl.NkInf, impl.NkNan, impl.NkSignal} {
		for _, neg := range []bool{false, true} {
			for _, exp := range []int64{1, -1, l.least, l.greatest, math.MinInt64, math.MaxInt64} {
				nums = append(nums, impl.Num{Kind: kind, Neg: neg, Exp: exp})
			}
			for _, digits := range []string{"0", "1", "00", " ", "x", full} {
				nums = append(nums, impl.Num{Kind: kind, Neg: neg, Digits: digits})
			}
		}
		if kind != impl.NkInf {
			nums = append(nums, impl.Num{Kind: kind, Neg: true})
		}
	}
	return nums
}

func TestNumOk(t *testing.T) {
	for _, l := range wordLayouts {
		for _, n := range rightNums(l) {
			if !impl.NumOk(l.format, n) {
				t.Errorf("NumOk(%d, %v) is false", l.format, n)
			}
		}
		for _, n := range wrongNums(l) {
			if impl.NumOk(l.format, n) {
				t.Errorf("NumOk(%d, %v) is true", l.format, n)
			}
		}
	}
}

func TestNumOkNoFormat(t *testing.T) {
	nums := append(specialNums(), finite(false, "0", 0), finite(true, "1", 0), finite(false, "9", -398), impl.Num{})
	for _, format := range noFormats {
		for _, n := range nums {
			if impl.NumOk(format, n) {
				t.Errorf("NumOk(%d, %v) is true", format, n)
			}
		}
	}
}

// TestNumOkBounds: what one format's bounds let in and the other's do not.
func TestNumOkBounds(t *testing.T) {
	ones := strings.Repeat("1", 35)
	for _, c := range []struct {
		n           impl.Num
		small, wide bool
	}{
		{finite(false, ones[:16], 0), true, true},
		{finite(false, ones[:17], 0), false, true},
		{finite(true, ones[:34], 0), false, true},
		{finite(true, ones[:35], 0), false, false},
		{finite(false, "0", 369), true, true},
		{finite(false, "0", 370), false, true},
		{finite(false, "0", 6111), false, true},
		{finite(false, "0", 6112), false, false},
		{finite(false, "5", -398), true, true},
		{finite(false, "5", -399), false, true},
		{finite(true, "5", -6176), false, true},
		{finite(true, "5", -6177), false, false},
	} {
		if got := impl.NumOk(impl.Fm64, c.n); got != c.small {
			t.Errorf("NumOk(64, %v) = %v", c.n, got)
		}
		if got := impl.NumOk(impl.Fm128, c.n); got != c.wide {
			t.Errorf("NumOk(128, %v) = %v", c.n, got)
		}
		if _, fine := impl.Pack64(c.n); fine != c.small {
			t.Errorf("Pack64(%v): %v", c.n, fine)
		}
		if _, fine := impl.Pack128(c.n); fine != c.wide {
			t.Errorf("Pack128(%v): %v", c.n, fine)
		}
	}
}

// TestPackReckoned is promise 10's first half beside the bits reckoned apart.
func TestPackReckoned(t *testing.T) {
	rows := decletRows(t)
	for _, l := range wordLayouts {
		for _, n := range rightNums(l) {
			want := reckonedBits(t, rows, l, n)
			got, fine := packedText(l, n)
			if !fine || got != want {
				t.Fatalf("%d: %v packed is\n%s, %v, not\n%s", l.format, n, got, fine, want)
			}
			if back := unpackedText(t, l, got); back != n {
				t.Fatalf("%d: %v comes back as %v", l.format, n, back)
			}
		}
	}
}

// TestPackEveryExp goes through all exponents, with a first digit of each of
// the two forms.
func TestPackEveryExp(t *testing.T) {
	rows := decletRows(t)
	for _, l := range wordLayouts {
		for exp := l.least; exp <= l.greatest; exp++ {
			for _, n := range []impl.Num{finite(false, "7", exp), finite(true, "9"+strings.Repeat("5", l.digits-1), exp)} {
				got, fine := packedText(l, n)
				if want := reckonedBits(t, rows, l, n); !fine || got != want {
					t.Fatalf("%d: %v packed is\n%s, %v, not\n%s", l.format, n, got, fine, want)
				}
				if back := unpackedText(t, l, got); back != n {
					t.Fatalf("%d: %v comes back as %v", l.format, n, back)
				}
			}
		}
	}
}

func TestPackRefuses(t *testing.T) {
	for _, l := range wordLayouts {
		for _, n := range wrongNums(l) {
			if got, fine := packedText(l, n); fine || strings.Contains(got, "1") {
				t.Errorf("%d: %v packed is %s, %v", l.format, n, got, fine)
			}
		}
	}
}

func TestPack64(t *testing.T) {
	for _, c := range []struct {
		n    impl.Num
		word uint64
	}{
		{finite(false, "0", -398), 0},
		{finite(true, "0", -398), 0x8000000000000000},
		{finite(false, "0", 0), 0x2238000000000000},
		{finite(true, "0", 0), 0xa238000000000000},
		{finite(false, "0", 369), 0x43fc000000000000},
		{finite(false, "1", 0), 0x2238000000000001},
		{finite(true, "750", -2), 0xa2300000000003d0},
		{finite(false, "1", -398), 0x0000000000000001},
		{finite(false, "1000000000000000", -398), 0x0400000000000000},
		{finite(false, "1000000000000000", 369), 0x47fc000000000000},
		{finite(false, "8000000000000000", -398), 0x6000000000000000},
		{finite(false, "9000000000000000", -398), 0x6400000000000000},
		{finite(false, "9999999999999999", 369), 0x77fcff3fcff3fcff},
		{finite(true, "9999999999999999", 369), 0xf7fcff3fcff3fcff},
		{finite(false, "1234567890123456", 0), 0x263934b9c1e28e56},
		{impl.Num{Kind: impl.NkInf}, 0x7800000000000000},
		{impl.Num{Kind: impl.NkInf, Neg: true}, 0xf800000000000000},
		{impl.Num{Kind: impl.NkNan}, 0x7c00000000000000},
		{impl.Num{Kind: impl.NkSignal}, 0x7e00000000000000},
	} {
		if got, fine := impl.Pack64(c.n); !fine || got != c.word {
			t.Errorf("Pack64(%v) = %016x, %v, not %016x", c.n, got, fine, c.word)
		}
		if got := impl.Unpack64(c.word); got != c.n {
			t.Errorf("Unpack64(%016x) = %v, not %v", c.word, got, c.n)
		}
		if got := impl.CanonWord(c.word); got != c.word {
			t.Errorf("CanonWord(%016x) = %016x", c.word, got)
		}
	}
}

func TestPack128(t *testing.T) {
	for _, c := range []struct {
		n impl.Num
		w impl.Wide
	}{
		{finite(false, "0", -6176), impl.Wide{}},
		{finite(true, "0", -6176), impl.Wide{Hi: 0x8000000000000000}},
		{finite(false, "0", 0), impl.Wide{Hi: 0x2208000000000000}},
		{finite(false, "1", 0), impl.Wide{Hi: 0x2208000000000000, Lo: 1}},
		{finite(true, "750", -2), impl.Wide{Hi: 0xa207800000000000, Lo: 0x3d0}},
		{finite(false, "1", -6176), impl.Wide{Lo: 1}},
		{finite(false, "1"+strings.Repeat("0", 33), -6176), impl.Wide{Hi: 0x0400000000000000}},
		{finite(false, "8"+strings.Repeat("0", 33), -6176), impl.Wide{Hi: 0x6000000000000000}},
		{finite(false, strings.Repeat("9", 34), 6111), impl.Wide{Hi: 0x77ffcff3fcff3fcf, Lo: 0xf3fcff3fcff3fcff}},
		{impl.Num{Kind: impl.NkInf}, impl.Wide{Hi: 0x7800000000000000}},
		{impl.Num{Kind: impl.NkInf, Neg: true}, impl.Wide{Hi: 0xf800000000000000}},
		{impl.Num{Kind: impl.NkNan}, impl.Wide{Hi: 0x7c00000000000000}},
		{impl.Num{Kind: impl.NkSignal}, impl.Wide{Hi: 0x7e00000000000000}},
	} {
		if got, fine := impl.Pack128(c.n); !fine || got != c.w {
			t.Errorf("Pack128(%v) = %016x, %v, not %016x", c.n, got, fine, c.w)
		}
		if got := impl.Unpack128(c.w); got != c.n {
			t.Errorf("Unpack128(%016x) = %v, not %v", c.w, got, c.n)
		}
	}
}

// checkUnpacked holds any bits against the reading reckoned apart, and what they
// stand for against its own bits.
func checkUnpacked(t *testing.T, rows []decletRow, l wordLayout, bits string) {
	t.Helper()
	want := reckonedNum(t, rows, l, bits)
	n := unpackedText(t, l, bits)
	if n != want {
		t.Fatalf("%d: %s stands for %v, not %v", l.format, bits, n, want)
	}
	canonical := reckonedBits(t, rows, l, want)
	got, fine := packedText(l, n)
	if !fine || !impl.NumOk(l.format, n) || got != canonical {
		t.Fatalf("%d: %s\nmade canonical is\n%s, %v, not\n%s", l.format, bits, got, fine, canonical)
	}
	if l.format != impl.Fm64 {
		return
	}
	once := impl.CanonWord(wordOfText(t, bits))
	if once != wordOfText(t, canonical) || impl.CanonWord(once) != once || impl.Unpack64(once) != n {
		t.Fatalf("CanonWord of %s is %064b, of that %064b", bits, once, impl.CanonWord(once))
	}
}

// tails are what may stand behind the five bits: all 0, all 1, bits alone at
// either end, declets that are not canonical, and others with no rule to them.
func tails(l wordLayout) []string {
	size := int(l.format) - 6
	texts := []string{
		strings.Repeat("0", size), strings.Repeat("1", size),
		"1" + strings.Repeat("0", size-1), strings.Repeat("0", size-1) + "1",
		"0" + strings.Repeat("1", size-1), strings.Repeat("1", size-1) + "0",
	}
	places := (size - l.rest) / 10
	for _, rest := range []string{"00000000", "11111111", "10000000", "01111111", "10110001"} {
		rest += strings.Repeat(rest[7:], l.rest-8)
		for _, declet := range []string{"1101101110", "0111111111", "1011101111", "1111111110", "0101010101", "1010101010"} {
			texts = append(texts, rest+strings.Repeat(declet, places))
		}
	}
	for seed := range uint64(40) {
		texts = append(texts, strings.Join(mixedBits(seed, 3), "")[:size])
	}
	return texts
}

// mixedBits are words that hang on the seed alone, as texts of bits.
func mixedBits(seed uint64, count int) []string {
	words := make([]string, count)
	state := seed*0x9e3779b97f4a7c15 + 0x1234567
	for i := range words {
		state ^= state << 13
		state ^= state >> 7
		state ^= state << 17
		words[i] = fmt.Sprintf("%064b", state*0x2545f4914f6cdd1d)
	}
	return words
}

// TestUnpackEveryFive takes the thirty-two values of the five bits, 11110 and
// 11111 among them, with both signs and all else any.
func TestUnpackEveryFive(t *testing.T) {
	rows := decletRows(t)
	for _, l := range wordLayouts {
		for five := range 32 {
			for _, sign := range []string{"0", "1"} {
				for _, tail := range tails(l) {
					checkUnpacked(t, rows, l, sign+fmt.Sprintf("%05b", five)+tail)
				}
			}
		}
	}
}

// TestUnpackEveryDeclet puts each of the ten bits' values in each place.
func TestUnpackEveryDeclet(t *testing.T) {
	rows := decletRows(t)
	for _, l := range wordLayouts {
		head := 6 + l.rest
		for _, base := range []string{strings.Repeat("0", int(l.format)), "0" + strings.Repeat("110", int(l.format))[:l.format-1]} {
			for place := head; place < int(l.format); place += 10 {
				for declet := range 1024 {
					checkUnpacked(t, rows, l, base[:place]+fmt.Sprintf("%010b", declet)+base[place+10:])
				}
			}
		}
	}
}

func TestUnpackAnyBits(t *testing.T) {
	rows := decletRows(t)
	for _, l := range wordLayouts {
		for seed := range uint64(4000) {
			bits := strings.Join(mixedBits(seed, 2), "")[:l.format]
			checkUnpacked(t, rows, l, bits)
		}
		checkUnpacked(t, rows, l, strings.Repeat("0", int(l.format)))
		checkUnpacked(t, rows, l, strings.Repeat("1", int(l.format)))
		for place := range int(l.format) {
			bits := []byte(strings.Repeat("0", int(l.format)))
			bits[place] = '1'
			checkUnpacked(t, rows, l, string(bits))
			bits = []byte(strings.Repeat("1", int(l.format)))
			bits[place] = '0'
			checkUnpacked(t, rows, l, string(bits))
		}
	}
}

func TestUnpack64(t *testing.T) {
	for _, c := range []struct {
		word  uint64
		n     impl.Num
		canon uint64
	}{
		{0, finite(false, "0", -398), 0},
		{math.MaxUint64, impl.Num{Kind: impl.NkSignal}, 0x7e00000000000000},
		{0x7800000000000001, impl.Num{Kind: impl.NkInf}, 0x7800000000000000},
		{0x7bffffffffffffff, impl.Num{Kind: impl.NkInf}, 0x7800000000000000},
		{0xfbffffffffffffff, impl.Num{Kind: impl.NkInf, Neg: true}, 0xf800000000000000},
		{0xfa00000000000000, impl.Num{Kind: impl.NkInf, Neg: true}, 0xf800000000000000},
		{0x7dffffffffffffff, impl.Num{Kind: impl.NkNan}, 0x7c00000000000000},
		{0xfc00000000000000, impl.Num{Kind: impl.NkNan}, 0x7c00000000000000},
		{0xfdffffffffffffff, impl.Num{Kind: impl.NkNan}, 0x7c00000000000000},
		{0xfe00000000000000, impl.Num{Kind: impl.NkSignal}, 0x7e00000000000000},
		{0x7e00000000000001, impl.Num{Kind: impl.NkSignal}, 0x7e00000000000000},
		{0x22380000000003ff, finite(false, "999", 0), 0x22380000000000ff},
		{0x22380000000002ee, finite(false, "988", 0), 0x22380000000000ee},
		{0xa23800000000016e, finite(true, "888", 0), 0xa23800000000006e},
		{0x77ffffffffffffff, finite(false, "9999999999999999", 369), 0x77fcff3fcff3fcff},
		{0x6fffffffffffffff, finite(false, "9999999999999999", 113), 0x6ffcff3fcff3fcff},
	} {
		if got := impl.Unpack64(c.word); got != c.n {
			t.Errorf("Unpack64(%016x) = %v, not %v", c.word, got, c.n)
		}
		if got := impl.CanonWord(c.word); got != c.canon {
			t.Errorf("CanonWord(%016x) = %016x, not %016x", c.word, got, c.canon)
		}
	}
}

func TestUnpack128(t *testing.T) {
	all := uint64(math.MaxUint64)
	for _, c := range []struct {
		w impl.Wide
		n impl.Num
	}{
		{impl.Wide{}, finite(false, "0", -6176)},
		{impl.Wide{Hi: all, Lo: all}, impl.Num{Kind: impl.NkSignal}},
		{impl.Wide{Hi: 0x7bffffffffffffff, Lo: all}, impl.Num{Kind: impl.NkInf}},
		{impl.Wide{Hi: 0xf800000000000000, Lo: 1}, impl.Num{Kind: impl.NkInf, Neg: true}},
		{impl.Wide{Hi: 0xfdffffffffffffff, Lo: all}, impl.Num{Kind: impl.NkNan}},
		{impl.Wide{Hi: 0x7c00000000000000, Lo: all}, impl.Num{Kind: impl.NkNan}},
		{impl.Wide{Hi: 0xfe00000000000000}, impl.Num{Kind: impl.NkSignal}},
		{impl.Wide{Hi: 0x2208000000000000, Lo: 0x3ff}, finite(false, "999", 0)},
		{impl.Wide{Hi: 0x77ffffffffffffff, Lo: all}, finite(false, strings.Repeat("9", 34), 6111)},
		// The seventh declet from the low end lies in both words.
		{impl.Wide{Hi: 0x2208000000000000, Lo: 1 << 60}, finite(false, "1"+strings.Repeat("0", 18), 0)},
		{impl.Wide{Hi: 0x2208000000000001}, finite(false, "10"+strings.Repeat("0", 18), 0)},
	} {
		if got := impl.Unpack128(c.w); got != c.n {
			t.Errorf("Unpack128(%016x) = %v, not %v", c.w, got, c.n)
		}
	}
}

// TestWordsThereAndBack is promise 10, held against nothing but itself.
func TestWordsThereAndBack(t *testing.T) {
	for _, l := range wordLayouts {
		for _, n := range rightNums(l) {
			bits, fine := packedText(l, n)
			if back := unpackedText(t, l, bits); !fine || back != n {
				t.Fatalf("%d: %v comes back as %v, %v", l.format, n, back, fine)
			}
		}
	}
	for seed := range uint64(4000) {
		for _, bits := range mixedBits(seed, 2) {
			word := wordOfText(t, bits)
			for _, high := range []uint64{0, 0x7800000000000000, 0x7c00000000000000, 0x8000000000000000} {
				word |= high
				once := impl.CanonWord(word)
				if again := impl.CanonWord(once); again != once || impl.Unpack64(once) != impl.Unpack64(word) {
					t.Fatalf("CanonWord(%016x) = %016x, of that %016x; Unpack64 %v and %v",
						word, once, again, impl.Unpack64(word), impl.Unpack64(once))
				}
			}
		}
	}
}

// TestWordsAnswerAgain: what was asked before does not matter, and a Num that
// was handed in stays.
func TestWordsAnswerAgain(t *testing.T) {
	for _, l := range wordLayouts {
		for _, n := range append(wrongNums(l), rightNums(l)[:200]...) {
			given := n
			first, fine := packedText(l, given)
			impl.NumOk(l.format, given)
			unpackedText(t, l, first)
			again, still := packedText(l, given)
			if given != n || first != again || fine != still {
				t.Errorf("%d: %v packed is %s, %v, then %s, %v", l.format, n, first, fine, again, still)
			}
		}
	}
}
