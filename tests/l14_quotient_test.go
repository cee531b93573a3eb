package tests

import (
	"math/big"
	"strings"
	"testing"

	"loop.example/g00085/impl"
)

// checkQuotient takes two numbers above 0 (or noughts) with each pair of signs.
func checkQuotient(t *testing.T, format, mode int64, a, b impl.Num, want impl.Result) {
	t.Helper()
	for _, signs := range [][2]bool{{false, false}, {true, true}, {false, true}, {true, false}} {
		a.Neg, b.Neg, want.Num.Neg = signs[0], signs[1], signs[0] != signs[1]
		by := mode
		if want.Num.Neg {
			by = otherWay(mode)
		}
		if got := impl.Div(format, by, a, b); got != want {
			t.Errorf("Div(%d, %d, %+v, %+v) = %+v, not %+v", format, by, a, b, got, want)
		}
	}
}

func checkQuotientCases(t *testing.T, l wordLayout, cases []sumCase) {
	t.Helper()
	for _, c := range cases {
		for _, mode := range allModes {
			checkQuotient(t, l.format, mode, c.a, c.b, plainly(c.want))
		}
	}
}

// quotientCase is what a quotient above 0 becomes by each mode.
type quotientCase struct {
	a, b  impl.Num
	want  modeDigits
	exp   int64
	flags int64
}

func checkQuotientModes(t *testing.T, l wordLayout, cases []quotientCase) {
	t.Helper()
	for _, c := range cases {
		for i, mode := range allModes {
			checkQuotient(t, l.format, mode, c.a, c.b, impl.Result{Num: above(c.want[i], c.exp), Flags: c.flags})
		}
	}
}

func powerText(base, exponent int64) string {
	return new(big.Int).Exp(big.NewInt(base), big.NewInt(exponent), nil).String()
}

// fivesOf is the least exponent for which 5 to it has so many digits: 1 by 2 to
// the same has these digits then.
func fivesOf(size int) int64 {
	exponent := int64(0)
	for len(powerText(5, exponent)) < size {
		exponent++
	}
	return exponent
}

func TestDivExact(t *testing.T) {
	for _, l := range wordLayouts {
		p, wide := l.digits, p64(l)
		one := tenPowerText(p - 1)
		checkQuotientCases(t, l, []sumCase{
			// Just the preferred Exp.
			{above("6", 0), above("3", 0), above("2", 0)},
			{above("10", 0), above("2", 0), above("5", 0)},
			{above("1200", 0), above("2", 0), above("600", 0)},
			{above("2400", -2), above("2", 3), above("1200", -5)},
			{above("7", 3), above("7", 5), above("1", -2)},
			{above(head(p), 7), above("1", 0), above(head(p), 7)},
			{above(head(p), 7), above(head(p), 0), above("1", 7)},
			{above(nines(p), 0), above("1", 3), above(nines(p), -3)},
			{above(nines(p), 0), above("9", 0), above(repeated("1", p), 0)},
			{above(one, 0), above("1", 0), above(one, 0)},
			{above(one, 0), above(one, 0), above("1", 0)},
			{above("1000", 0), above("8", 0), above("125", 0)},
			// More digits than the preferred Exp lets stand.
			{above("1", 0), above("8", 0), above("125", -3)},
			{above("1", 2), above("8", 0), above("125", -1)},
			{above("1", 0), above("4", 5), above("25", -7)},
			{above("7", 0), above("2", 0), above("35", -1)},
			{above("1", 0), above("10", 0), above("1", -1)},
			{above("1", 0), above(one, 0), above("1", 1-wide)},
			{above(nines(p-1), 0), above("10", 0), above(nines(p-1), -1)},
			{above("3", 0), above("5"+noughts(p-1), 0), above("6", -wide)},
			// Fewer digits: the preferred Exp keeps the noughts behind.
			{above("100", 0), above("1", 0), above("100", 0)},
			{above("5"+noughts(p-1), 0), above("5", 0), above(one, 0)},
			{above("12000", 0), above("12", 0), above("1000", 0)},
			{above("12000", 0), above("12000", -3), above("1", 3)},
			{above("12000", 0), above("1200", -3), above("10", 3)},
		})
	}
}

// TestDivAtBounds: exact quotients at the format's bounds and beyond them, where
// noughts that come or go still tell them.
func TestDivAtBounds(t *testing.T) {
	for _, l := range wordLayouts {
		p, wide := l.digits, p64(l)
		one := tenPowerText(p - 1)
		checkQuotientCases(t, l, []sumCase{
			{above("3", l.least), above("3", 0), above("1", l.least)},
			{above("3", l.least), above("3", -5), above("1", l.least+5)},
			{above("30", l.least), above("3", 1), above("1", l.least)},
			{above("300", l.least), above("3", 1), above("10", l.least)},
			{above("10", l.least), above("10", 0), above("1", l.least)},
			{above("8", l.least+3), above("64", 0), above("125", l.least)},
			{above(one, l.least), above("1", wide-1), above("1", l.least)},
			{above("9", l.least), above("1", l.least), above("9", 0)},
			{above("9", l.greatest), above("3", 0), above("3", l.greatest)},
			{above("9", l.greatest), above("3", -1), above("30", l.greatest)},
			{above("9", l.greatest), above("3", 1-wide), above("3"+noughts(p-1), l.greatest)},
			{above("1", l.greatest), above("8", 0), above("125", l.greatest-3)},
			{above("1", l.greatest), above("8", -3), above("125", l.greatest)},
			{above("1", l.greatest), above("8", -4), above("1250", l.greatest)},
			{above("9", l.greatest), above("1", l.greatest), above("9", 0)},
			{above(nines(p), l.greatest), above("1", 0), above(nines(p), l.greatest)},
			{above(nines(p), l.greatest), above(nines(p), 0), above("1", l.greatest)},
		})
	}
}

// TestDivNoughts: a nought by a number that is none has a's Exp less b's, kept
// within the bounds.
func TestDivNoughts(t *testing.T) {
	for _, l := range wordLayouts {
		for _, other := range []string{"1", "7", "3000", nines(l.digits)} {
			checkQuotientCases(t, l, []sumCase{
				{above("0", 0), above(other, 0), above("0", 0)},
				{above("0", 3), above(other, -7), above("0", 10)},
				{above("0", -3), above(other, 7), above("0", -10)},
				{above("0", l.least), above(other, 0), above("0", l.least)},
				{above("0", l.least+1), above(other, 1), above("0", l.least)},
				{above("0", l.least), above(other, 1), above("0", l.least)},
				{above("0", l.least), above(other, l.greatest), above("0", l.least)},
				{above("0", l.least), above(other, l.least), above("0", 0)},
				{above("0", l.greatest), above(other, 0), above("0", l.greatest)},
				{above("0", l.greatest-1), above(other, -1), above("0", l.greatest)},
				{above("0", l.greatest), above(other, -1), above("0", l.greatest)},
				{above("0", 1), above(other, -l.greatest), above("0", l.greatest)},
				{above("0", l.greatest), above(other, l.least), above("0", l.greatest)},
				{above("0", l.greatest), above(other, l.greatest), above("0", 0)},
			})
		}
	}
}

// repeated is the text again and again, cut to the size.
func repeated(text string, size int) string {
	return strings.Repeat(text, size)[:size]
}

// oneUp is one more, whatever the last digit is.
func oneUp(digits string) string {
	number, _ := new(big.Int).SetString(digits, 10)
	return number.Add(number, big.NewInt(1)).String()
}

// exactlyHalf, upFrom and downFrom are what digits become that have a half
// behind them, more than that, or less.
func exactlyHalf(digits string) modeDigits {
	if strings.Contains("13579", digits[len(digits)-1:]) {
		return upFrom(digits)
	}
	return modeDigits{digits, digits, digits, oneUp(digits), oneUp(digits)}
}

func upFrom(digits string) modeDigits {
	return modeDigits{oneUp(digits), digits, digits, oneUp(digits), oneUp(digits)}
}

func downFrom(digits string) modeDigits {
	return modeDigits{digits, digits, digits, oneUp(digits), digits}
}

// cutAt is what more digits than size become where the others go.
func cutAt(digits string, size int) modeDigits {
	switch {
	case digits[size:] == "5":
		return exactlyHalf(digits[:size])
	case digits[size] >= '5':
		return upFrom(digits[:size])
	}
	return downFrom(digits[:size])
}

// TestDivEnds: quotients that end at just as many digits as the format has, one
// digit behind (a half then), and far behind.
func TestDivEnds(t *testing.T) {
	for _, l := range wordLayouts {
		p, wide := l.digits, p64(l)
		all, more := fivesOf(p), fivesOf(p+1)
		checkQuotientCases(t, l, []sumCase{
			{above("1", 0), above(powerText(2, all), 0), above(powerText(5, all), -all)},
			{above("1", 9), above(powerText(2, all), -3), above(powerText(5, all), 12-all)},
			{above(tenPowerText(p-1), 0), above(powerText(2, all), 0), above(powerText(5, all), wide-1-all)},
			{above("2", 0), above(powerText(2, all+1), 0), above(powerText(5, all), -all)},
		})
		checkQuotientModes(t, l, []quotientCase{
			{above("1", 0), above(powerText(2, more), 0), cutAt(powerText(5, more), p), 1 - more, inexact},
			{above("3"+noughts(p-2)+"1", 0), above("2", 0), exactlyHalf("15" + noughts(p-2)), 0, inexact},
			{above("3"+noughts(p-2)+"3", 0), above("2", 0), exactlyHalf("15" + noughts(p-3) + "1"), 0, inexact},
			{above("3"+noughts(p-2)+"1", -4), above("20", 0), exactlyHalf("15" + noughts(p-2)), -5, inexact},
			{above("3"+noughts(p-2)+"1", 0), above("2", 7), exactlyHalf("15" + noughts(p-2)), -7, inexact},
		})
		for _, far := range []int64{more + 1, more + 2, 50} {
			digits := powerText(5, far)
			checkQuotientModes(t, l, []quotientCase{
				{above("1", 0), above(powerText(2, far), 0), cutAt(digits, p), int64(len(digits)-p) - far, inexact},
			})
		}
	}
	// 2 to the 110 has just as many digits as the wide format.
	far := powerText(5, 110)
	checkQuotientModes(t, wordLayouts[1], []quotientCase{
		{above("1", 0), above(powerText(2, 110), 0), cutAt(far, 34), int64(len(far)) - 34 - 110, inexact},
	})
}

func TestDivDoesNotEnd(t *testing.T) {
	for _, l := range wordLayouts {
		p, wide := l.digits, p64(l)
		threes, sixes, sevenths := repeated("3", p+1), repeated("6", p+1), repeated("142857", p+2)
		checkQuotientModes(t, l, []quotientCase{
			{above("1", 0), above("3", 0), cutAt(threes, p), -wide, inexact},
			{above("2", 0), above("3", 0), cutAt(sixes, p), -wide, inexact},
			{above("1", 5), above("3", -2), cutAt(threes, p), 7 - wide, inexact},
			{above("10", 0), above("3", 0), cutAt(threes, p), 1 - wide, inexact},
			{above(tenPowerText(p-1), 0), above("3", 0), cutAt(threes, p), -1, inexact},
			{above("1", 0), above("3"+noughts(p-1), 0), cutAt(threes, p), 1 - 2*wide, inexact},
			{above("1", 0), above("7", 0), cutAt(sevenths, p), -wide, inexact},
			// By nines the digits of a come again and again.
			{above("5"+noughts(p-1), 0), above(nines(p), 0), upFrom("5" + noughts(p-1)), -wide, inexact},
			{above("5"+noughts(p-2)+"1", 0), above(nines(p), 0), upFrom("5" + noughts(p-2) + "1"), -wide, inexact},
			{above("4"+nines(p-2)+"8", 0), above(nines(p), 0), downFrom("4" + nines(p-2) + "8"), -wide, inexact},
			{above("1"+noughts(p-1), 0), above(nines(p), 0), downFrom("1" + noughts(p-1)), -wide, inexact},
			{above("1", 0), above(nines(p), 0), downFrom("1" + noughts(p-1)), 1 - 2*wide, inexact},
			{above(nines(p-1)+"8", 0), above(nines(p), 0), upFrom(nines(p-1) + "8"), -wide, inexact},
		})
	}
}

// leaving finds an a and an odd b of all digits with a 10^p = D b + left, D of
// all digits, too; left is told of b. So the first digit behind D that tells
// something stands about p digits behind.
func leaving(t *testing.T, l wordLayout, left func(b *big.Int) *big.Int) (string, string, string) {
	t.Helper()
	ten := tenTo(l.digits)
	for b := bigNatural(t, head(l.digits-1)+"7"); ; b.Add(b, big.NewInt(10)) {
		inverse := new(big.Int).ModInverse(ten, b)
		if inverse == nil {
			continue
		}
		rest := left(b)
		a := new(big.Int).Mul(rest, inverse)
		a.Mod(a, b)
		digits, got := new(big.Int).DivMod(new(big.Int).Mul(a, ten), b, new(big.Int))
		if got.Cmp(rest) != 0 {
			t.Fatalf("%v by %v leaves %v, not %v", a, b, got, rest)
		}
		// A half that is taken for an exact one shows behind an even digit. D is
		// as odd as what is left, so this has to be even, if it is not 1.
		if text := digits.String(); len(text) == l.digits && (rest.Bit(0) == 0 || rest.Cmp(big.NewInt(1)) == 0) {
			return a.String(), b.String(), text
		}
	}
}

// TestDivLeftDecides: what is left alone tells a quotient from an exact one, or
// from an exact half, since the next digits are all noughts or nines.
func TestDivLeftDecides(t *testing.T) {
	half := func(more int64) func(b *big.Int) *big.Int {
		return func(b *big.Int) *big.Int {
			twice := new(big.Int).Add(b, big.NewInt(more))
			return twice.Rsh(twice, 1)
		}
	}
	for _, l := range wordLayouts {
		for name, c := range map[string]struct {
			left func(b *big.Int) *big.Int
			want func(digits string) modeDigits
		}{
			"next to nothing":   {func(b *big.Int) *big.Int { return big.NewInt(1) }, downFrom},
			"just below a half": {half(-1), downFrom},
			"just above a half": {half(1), upFrom},
			"nearly a unit":     {func(b *big.Int) *big.Int { return new(big.Int).Sub(b, big.NewInt(1)) }, upFrom},
		} {
			a, b, digits := leaving(t, l, c.left)
			t.Logf("%s: %s by %s", name, a, b)
			for _, exp := range []int64{0, 5, -100} {
				checkQuotientModes(t, l, []quotientCase{{above(a, exp), above(b, 0), c.want(digits), exp - p64(l), inexact}})
			}
		}
	}
}

func TestDivOver(t *testing.T) {
	for _, l := range wordLayouts {
		p := l.digits
		most := above(nines(p), l.greatest)
		for _, c := range [][2]impl.Num{
			{most, above("1", -1)}, {most, above("5", -1)}, {most, above("3", -1)}, {most, above("1", l.least)},
			{above("1", l.greatest), above("1", l.least)}, {above("1", l.greatest), above("1", -p64(l))},
			{above("1", l.greatest), above("3", -p64(l)-1)}, {above(nines(p), l.greatest), above(nines(p-1)+"8", -p64(l))},
		} {
			for _, mode := range allModes {
				want := impl.Result{Num: infinity(false), Flags: over}
				if mode == impl.RmZero || mode == impl.RmFloor {
					want.Num = most
				}
				checkQuotient(t, l.format, mode, c[0], c[1], want)
			}
		}
		// The greatest that does not overflow, by digits that do not end.
		checkQuotientModes(t, l, []quotientCase{
			{above("1", l.greatest), above("3", -p64(l)), cutAt(repeated("3", p+1), p), l.greatest, inexact},
		})
	}
}

func TestDivUnder(t *testing.T) {
	for _, l := range wordLayouts {
		p, wide := l.digits, p64(l)
		one, most := tenPowerText(p-1), above(nines(p), l.least)
		nought := modeDigits{"0", "0", "0", "1", "0"}
		checkQuotientModes(t, l, []quotientCase{
			{above("1", l.least), above("3", 0), nought, l.least, under},
			{above("2", l.least), above("3", 0), modeDigits{"1", "0", "0", "1", "1"}, l.least, under},
			{above("1", l.least), above("2", 0), modeDigits{"0", "0", "0", "1", "1"}, l.least, under},
			{above("3", l.least), above("2", 0), modeDigits{"2", "1", "1", "2", "2"}, l.least, under},
			{above("5", l.least), above("2", 0), modeDigits{"2", "2", "2", "3", "3"}, l.least, under},
			{above("10", l.least), above("3", 0), downFrom("3"), l.least, under},
			{above("1000", l.least), above("7", 0), upFrom("142"), l.least, under},
			{above("1000", l.least), above("6", 0), upFrom("166"), l.least, under},
			// Just above a half and just below it.
			{above("5"+noughts(p-2)+"1", l.least), above(one, 1), modeDigits{"1", "0", "0", "1", "1"}, l.least, under},
			{above("5", l.least), above("1", 1), modeDigits{"0", "0", "0", "1", "1"}, l.least, under},
			{above("4"+nines(p-1), l.least), above(one, 1), nought, l.least, under},
			{above("5"+noughts(p-1), l.least), above(nines(p), 0), modeDigits{"1", "0", "0", "1", "1"}, l.least, under},
			{above("1", l.least), above("1", 1), nought, l.least, under},
			{most, above("1", wide), modeDigits{"1", "0", "0", "1", "1"}, l.least, under},
			{most, above("1", wide+1), nought, l.least, under},
			// All digits gone, however far.
			{above("1", l.least), above("1", 150), nought, l.least, under},
			{above("1", l.least), above("1", 199), nought, l.least, under},
			{above("1", l.least), above("1", 200), nought, l.least, under},
			{above("1", l.least), above("7", 201), nought, l.least, under},
			{above("1", l.least), above(nines(p), l.greatest), nought, l.least, under},
			{most, above("1", l.greatest), nought, l.least, under},
			// Around the least number that has all digits.
			{above("1", l.least+wide-1), above("3", 0), cutAt(repeated("3", p), p-1), l.least, under},
			{above("4", l.least+wide-1), above("3", 0), cutAt("1"+repeated("3", p), p), l.least, inexact},
			{most, above("10", 0), modeDigits{one, nines(p - 1), nines(p - 1), one, one}, l.least, under},
			{above("1", l.least+wide), above("7", 0), cutAt(repeated("142857", p+2), p), l.least, inexact},
		})
		checkQuotientCases(t, l, []sumCase{
			{above("1", l.least+wide-1), above("1", 0), above("1", l.least+wide-1)},
			{above(one, l.least), above("10", 0), above(tenPowerText(p-2), l.least)},
		})
	}
}
