package tests

import (
	"testing"

	"loop.example/g00085/impl"
)

// checkQuantize takes in the same below 0, and a b of other digits and of the
// other sign, since nothing but its Exp matters.
func checkQuantize(t *testing.T, l wordLayout, mode int64, a impl.Num, exp int64, want impl.Result) {
	t.Helper()
	for _, digits := range []string{"0", "1", nines(l.digits)} {
		for _, neg := range bothSigns {
			b := finite(neg, digits, exp)
			if got := impl.Quantize(l.format, mode, a, b); got != want {
				t.Errorf("Quantize(%d, %d, %+v, %+v) = %+v, not %+v", l.format, mode, a, b, got, want)
			}
			mirrored := want
			if want != notValid {
				mirrored.Num = turned(want.Num)
			}
			if got := impl.Quantize(l.format, otherWay(mode), turned(a), b); got != mirrored {
				t.Errorf("Quantize(%d, %d, %+v, %+v) = %+v, not %+v", l.format, otherWay(mode), turned(a), b, got, mirrored)
			}
		}
	}
}

// TestQuantizeExact: nothing is rounded off, so nothing is flagged.
func TestQuantizeExact(t *testing.T) {
	for _, l := range wordLayouts {
		p, wide := l.digits, p64(l)
		for _, c := range []struct {
			a      impl.Num
			exp    int64
			digits string
		}{
			// b's Exp at a's, below and above it.
			{above("7", 0), 0, "7"},
			{above(head(p), -9), -9, head(p)},
			{above("7", l.least), l.least, "7"},
			{above("7", l.greatest), l.greatest, "7"},
			{above("7", 0), -1, "70"},
			{above("7", 3), -2, "700000"},
			{above("10", 0), -3, "10000"},
			{above("70", 0), 1, "7"},
			{above("7000", -1), 2, "7"},
			{above("7000", -1), 1, "70"},
			{above("5"+noughts(p-1), 0), wide - 1, "5"},
			// Just all digits.
			{above("7", 0), 1 - wide, "7" + noughts(p-1)},
			{above(head(p-1), 5), 4, head(p-1) + "0"},
			{above("7", l.greatest), l.greatest + 1 - wide, "7" + noughts(p-1)},
			{above("7", l.least+wide-1), l.least, "7" + noughts(p-1)},
			// Noughts take any Exp.
			{above("0", 0), 0, "0"},
			{above("0", 0), 7, "0"},
			{above("0", 0), -7, "0"},
			{above("0", 0), 1 - wide, "0"},
			{above("0", 0), -wide, "0"},
			{above("0", 199), -1, "0"},
			{above("0", 200), -1, "0"},
			{above("0", -1), 199, "0"},
			{above("0", -1), 200, "0"},
			{above("0", l.least), l.greatest, "0"},
			{above("0", l.greatest), l.least, "0"},
		} {
			for _, mode := range allModes {
				checkQuantize(t, l, mode, c.a, c.exp, plainly(above(c.digits, c.exp)))
			}
		}
	}
}

// goingCase is a number above 0 whose last digits go, and what becomes of it.
type goingCase struct {
	digits string
	drop   int64
	want   modeDigits
}

// goingCases have a half exactly and what is around it, and all digits gone.
func goingCases(l wordLayout) []goingCase {
	p, wide := l.digits, p64(l)
	return []goingCase{
		{"25", 1, exactlyHalf("2")}, {"35", 1, exactlyHalf("3")}, {"24", 1, downFrom("2")}, {"26", 1, upFrom("2")},
		{"21", 1, downFrom("2")}, {"29", 1, upFrom("2")}, {"250", 2, exactlyHalf("2")}, {"249", 2, downFrom("2")}, {"251", 2, upFrom("2")},
		{"350", 2, exactlyHalf("3")}, {"2050", 2, exactlyHalf("20")}, {"1001", 3, downFrom("1")}, {"1999", 3, upFrom("1")},
		// All digits go.
		{"5", 1, exactlyHalf("0")}, {"4", 1, downFrom("0")}, {"6", 1, upFrom("0")}, {"9", 1, upFrom("0")}, {"50", 2, exactlyHalf("0")},
		{"49", 2, downFrom("0")}, {"51", 2, upFrom("0")}, {"99", 3, downFrom("0")}, {"1", 1, downFrom("0")}, {"1", 150, downFrom("0")},
		{"5" + noughts(p-1), wide, exactlyHalf("0")}, {"5" + noughts(p-2) + "1", wide, upFrom("0")}, {"4" + nines(p-1), wide, downFrom("0")},
		{nines(p), wide, upFrom("0")}, {nines(p), wide + 1, downFrom("0")}, {nines(p), 199, downFrom("0")}, {nines(p), 200, downFrom("0")},
		{nines(p), 201, downFrom("0")}, {nines(p), 202, downFrom("0")}, {"1", 256, downFrom("0")}, {"1", 300, downFrom("0")},
		{nines(p), -l.least, downFrom("0")}, {"1", -l.least, downFrom("0")},
		// Rounding makes a digit more.
		{"99", 1, upFrom("9")}, {"95", 1, exactlyHalf("9")}, {"94", 1, downFrom("9")}, {nines(p), 1, upFrom(nines(p - 1))},
		{nines(p-1) + "5", 1, exactlyHalf(nines(p - 1))}, {nines(p-1) + "1", 1, downFrom(nines(p - 1))}, {nines(p), wide - 1, upFrom("9")},
	}
}

// TestQuantizeRounded: the flag is that of what was rounded off, and no other.
func TestQuantizeRounded(t *testing.T) {
	for _, l := range wordLayouts {
		for _, c := range goingCases(l) {
			for _, from := range []int64{l.least, -7, 0, l.greatest - c.drop} {
				if from+c.drop > l.greatest {
					continue
				}
				for i, mode := range allModes {
					want := impl.Result{Num: above(c.want[i], from+c.drop), Flags: inexact}
					checkQuantize(t, l, mode, above(c.digits, from), from+c.drop, want)
				}
			}
		}
		for _, mode := range allModes {
			want := impl.Result{Num: above("0", l.greatest), Flags: inexact}
			if mode == impl.RmCeil {
				want.Num.Digits = "1"
			}
			checkQuantize(t, l, mode, above(nines(l.digits), l.least), l.greatest, want)
		}
	}
}

// TestQuantizeTooLong: one digit more than the format has, and far more.
func TestQuantizeTooLong(t *testing.T) {
	for _, l := range wordLayouts {
		p, wide := l.digits, p64(l)
		for _, c := range []struct {
			a   impl.Num
			exp int64
		}{
			{above("7", 0), -wide}, {above("10", 0), 1 - wide}, {above(head(p), 0), -1}, {above(nines(p), 0), -1}, {above(head(p-1), 0), -2},
			{above("7", 0), -199}, {above("7", 0), -200}, {above("7", 0), -201}, {above("7", 0), -202}, {above("7", 0), -256},
			{above("7", 0), l.least}, {above("1", l.greatest), l.least}, {above(nines(p), l.greatest), l.least},
			{above("1", l.greatest), l.greatest - wide}, {above("1", l.least+wide), l.least}, {above(tenPowerText(p-1), 0), -1},
		} {
			for _, mode := range allModes {
				checkQuantize(t, l, mode, c.a, c.exp, notValid)
			}
		}
	}
}

// checkWhole takes in the same below 0.
func checkWhole(t *testing.T, format, mode int64, a impl.Num, want impl.Num) {
	t.Helper()
	if got := impl.Whole(format, mode, a); got != plainly(want) {
		t.Errorf("Whole(%d, %d, %+v) = %+v, not %+v", format, mode, a, got, want)
	}
	if got := impl.Whole(format, otherWay(mode), turned(a)); got != plainly(turned(want)) {
		t.Errorf("Whole(%d, %d, %+v) = %+v, not %+v", format, otherWay(mode), turned(a), got, turned(want))
	}
}

func TestWholeRounded(t *testing.T) {
	for _, l := range wordLayouts {
		for _, c := range goingCases(l) {
			for i, mode := range allModes {
				checkWhole(t, l.format, mode, above(c.digits, -c.drop), above(c.want[i], 0))
			}
		}
	}
}

// TestWholeAlready: digits behind the point that are noughts, and noughts.
func TestWholeAlready(t *testing.T) {
	for _, l := range wordLayouts {
		p, wide := l.digits, p64(l)
		for _, c := range []struct {
			a    impl.Num
			want string
		}{
			{above("70", -1), "7"}, {above("700", -1), "70"}, {above("1200", -2), "12"}, {above("5"+noughts(p-1), 1-wide), "5"},
			{above("0", -1), "0"}, {above("0", -2), "0"}, {above("0", -199), "0"}, {above("0", -200), "0"}, {above("0", -201), "0"},
			{above("0", l.least+1), "0"}, {above("0", l.least), "0"}, {above(head(p-1)+"0", -1), head(p - 1)},
		} {
			for _, mode := range allModes {
				checkWhole(t, l.format, mode, c.a, above(c.want, 0))
			}
		}
	}
}
