package tests

import (
	"math"
	"math/big"
	"strings"
	"testing"

	"loop.example/g00085/impl"
)

const (
	inexact = impl.FlInexact
	under   = impl.FlInexact + impl.FlUnder
	over    = impl.FlInexact + impl.FlOver
)

// finishing is what Finish is given.
type finishing struct {
	mode   int64
	neg    bool
	digits string
	exp    int64
	rest   bool
	want   int64
}

func (c finishing) in(format int64) impl.Result {
	return impl.Finish(format, c.mode, c.neg, c.digits, c.exp, c.rest, c.want)
}

// finishCase is a number above 0 and what becomes of it by one mode.
type finishCase struct {
	mode      int64
	digits    string
	exp       int64
	rest      bool
	want      int64
	gotDigits string
	gotExp    int64
	flags     int64
}

// otherWay is the mode that does below 0 what the mode does above it.
func otherWay(mode int64) int64 {
	switch mode {
	case impl.RmFloor:
		return impl.RmCeil
	case impl.RmCeil:
		return impl.RmFloor
	}
	return mode
}

// checkFinishCases takes each case as it stands and, mirrored, below 0.
func checkFinishCases(t *testing.T, l wordLayout, cases []finishCase) {
	t.Helper()
	for _, c := range cases {
		for _, neg := range bothSigns {
			mode := c.mode
			if neg {
				mode = otherWay(mode)
			}
			given := finishing{mode, neg, c.digits, c.exp, c.rest, c.want}
			want := impl.Result{Num: finite(neg, c.gotDigits, c.gotExp), Flags: c.flags}
			if got := given.in(l.format); got != want {
				t.Errorf("%d: %+v gives %+v, not %+v", l.format, given, got, want)
			}
		}
	}
}

// head is the first digits of 1234567890 again and again. Of both formats'
// count the last one is even, of one less it is odd.
func head(size int) string {
	return strings.Repeat("1234567890", 20)[:size]
}

// bumped has one more in its last digit, which is no 9.
func bumped(digits string) string {
	last := len(digits) - 1
	return digits[:last] + string(digits[last]+1)
}

func noughts(count int) string {
	return strings.Repeat("0", count)
}

func refusesFinish(t *testing.T, format int64, c finishing) {
	t.Helper()
	if got := c.in(format); got != (impl.Result{}) {
		t.Errorf("%d: %+v gives %+v", format, c, got)
	}
}

// TestFinishRefuses changes one thing alone of what is right.
func TestFinishRefuses(t *testing.T) {
	far := []int64{
		200001, -200001, 200002, -200002, 1 << 20, -1 << 20, 1 << 32, -1 << 32,
		math.MinInt64, math.MinInt64 + 1, math.MaxInt64 - 1, math.MaxInt64,
	}
	for _, l := range wordLayouts {
		for _, right := range []finishing{
			{impl.RmEven, false, "0", 0, false, 0}, {impl.RmFloor, true, "0", -5, false, 7},
			{impl.RmAway, false, "123", 0, false, 0}, {impl.RmZero, true, "5", 3, true, -1},
			{impl.RmCeil, false, nines(200), -100, true, 4}, {impl.RmEven, true, "1", 200000, false, -200000},
		} {
			if got := right.in(l.format); got == (impl.Result{}) {
				t.Errorf("%d: %+v is refused", l.format, right)
			}
			for _, format := range noFormats {
				refusesFinish(t, format, right)
			}
			for _, wrong := range noModes {
				c := right
				c.mode = wrong
				refusesFinish(t, l.format, c)
			}
			for _, wrong := range noNaturals() {
				c := right
				c.digits = wrong
				refusesFinish(t, l.format, c)
			}
			for _, wrong := range far {
				c, d := right, right
				c.exp, d.want = wrong, wrong
				refusesFinish(t, l.format, c)
				refusesFinish(t, l.format, d)
			}
		}
		for _, mode := range allModes {
			refusesFinish(t, l.format, finishing{mode, false, "0", 0, true, 0})
			refusesFinish(t, l.format, finishing{mode, true, "0", l.least, true, l.greatest})
		}
		refusesFinish(t, l.format, finishing{0, false, "", math.MaxInt64, true, math.MinInt64})
	}
}

// TestFinishFarthest: exp and want at their limits are within them.
func TestFinishFarthest(t *testing.T) {
	for _, l := range wordLayouts {
		p := l.digits
		checkFinishCases(t, l, []finishCase{
			{impl.RmEven, "1000", 0, false, 200000, "1", 3, 0},
			{impl.RmEven, "1", 0, false, -200000, tenPowerText(p - 1), int64(1 - p), 0},
			{impl.RmEven, "0", 200000, false, 5, "0", 5, 0},
			{impl.RmEven, "0", -200000, false, 5, "0", 5, 0},
			{impl.RmEven, "0", 0, false, 200000, "0", l.greatest, 0},
			{impl.RmEven, "0", 0, false, -200000, "0", l.least, 0},
			{impl.RmZero, "1", 200000, false, 200000, nines(p), l.greatest, over},
			{impl.RmZero, "1", 200000, true, 0, nines(p), l.greatest, over},
			{impl.RmZero, nines(200), 200000, true, -200000, nines(p), l.greatest, over},
			{impl.RmEven, "1", -200000, false, -200000, "0", l.least, under},
			{impl.RmCeil, "1", -200000, false, 200000, "1", l.least, under},
			{impl.RmCeil, "1", -200000, true, 0, "1", l.least, under},
			{impl.RmAway, nines(200), -200000, true, 200000, "0", l.least, under},
		})
	}
}

func TestFinishNought(t *testing.T) {
	for _, l := range wordLayouts {
		for _, c := range [][2]int64{
			{l.least - 2, l.least}, {l.least - 1, l.least}, {l.least, l.least}, {l.least + 1, l.least + 1}, {-1, -1}, {0, 0}, {1, 1},
			{l.greatest - 1, l.greatest - 1}, {l.greatest, l.greatest}, {l.greatest + 1, l.greatest}, {l.greatest + 2, l.greatest},
		} {
			for _, exp := range []int64{-200000, l.least - 1, l.least, 0, l.greatest, l.greatest + 1, 200000} {
				for _, mode := range allModes {
					checkFinishCases(t, l, []finishCase{{mode, "0", exp, false, c[0], "0", c[1], 0}})
				}
			}
		}
	}
}

// TestFinishDrop is point 2: how many digits go.
func TestFinishDrop(t *testing.T) {
	for _, l := range wordLayouts {
		p, wide := l.digits, int64(l.digits)
		checkFinishCases(t, l, []finishCase{
			{impl.RmEven, "7", 0, false, 0, "7", 0, 0},
			{impl.RmCeil, head(p - 1), 5, false, 5, head(p - 1), 5, 0},
			{impl.RmCeil, head(p), -5, false, -5, head(p), -5, 0},
			{impl.RmEven, head(p) + "5", 0, false, 0, head(p), 1, inexact},
			{impl.RmAway, head(p) + "5", 0, false, 0, bumped(head(p)), 1, inexact},
			{impl.RmEven, head(p) + "6", 0, false, 0, bumped(head(p)), 1, inexact},
			{impl.RmZero, head(p) + "9", 0, false, 0, head(p), 1, inexact},
			{impl.RmFloor, head(p) + "9", 0, false, 0, head(p), 1, inexact},
			{impl.RmCeil, head(p) + "1", 0, false, 0, bumped(head(p)), 1, inexact},
			{impl.RmCeil, head(p) + "0", 0, false, 0, head(p), 1, 0},
			{impl.RmZero, head(200), 0, false, 0, head(p), 200 - wide, inexact},
			{impl.RmCeil, head(200), -90, false, 0, bumped(head(p)), 110 - wide, inexact},
			{impl.RmCeil, tenPowerText(199), 0, false, 0, tenPowerText(p - 1), 200 - wide, 0},
			// The least Exp asks for more than the digits do, or for less.
			{impl.RmZero, "12345", l.least - 2, false, 0, "123", l.least, under},
			{impl.RmEven, "12345", l.least - 1, false, 0, "1234", l.least, under},
			{impl.RmAway, "12345", l.least - 1, false, 0, "1235", l.least, under},
			{impl.RmZero, head(p + 1), l.least - 5, false, 0, head(p - 4), l.least, under},
			{impl.RmZero, head(p + 4), l.least - 5, false, 0, head(p - 1), l.least, under},
			{impl.RmZero, head(p + 4), l.least - 4, false, 0, head(p), l.least, inexact},
			{impl.RmZero, head(p + 4), l.least - 2, false, 0, head(p), l.least + 2, inexact},
			{impl.RmZero, "12300", l.least - 2, false, l.least, "123", l.least, 0},
			{impl.RmZero, "123", l.least - 3, false, 0, "0", l.least, under},
			{impl.RmCeil, "99", l.least - 1, false, 0, "10", l.least, under},
		})
	}
}

// TestFinishDropMost: a drop of exactly as many digits as a natural has, and one
// more.
func TestFinishDropMost(t *testing.T) {
	half := "5" + noughts(199)
	for _, l := range wordLayouts {
		checkFinishCases(t, l, []finishCase{
			{impl.RmEven, nines(200), l.least - 200, false, 0, "1", l.least, under},
			{impl.RmZero, nines(200), l.least - 200, false, 0, "0", l.least, under},
			{impl.RmEven, half, l.least - 200, false, 0, "0", l.least, under},
			{impl.RmEven, half, l.least - 200, true, 0, "1", l.least, under},
			{impl.RmAway, half, l.least - 200, false, 0, "1", l.least, under},
			{impl.RmAway, "4" + nines(199), l.least - 200, true, 0, "0", l.least, under},
			{impl.RmEven, "1", l.least - 200, false, 0, "0", l.least, under},
			{impl.RmCeil, "1", l.least - 200, false, 0, "1", l.least, under},
			{impl.RmEven, nines(200), l.least - 201, false, 0, "0", l.least, under},
			{impl.RmAway, nines(200), l.least - 201, true, 0, "0", l.least, under},
			{impl.RmCeil, nines(200), l.least - 201, false, 0, "1", l.least, under},
			{impl.RmFloor, nines(200), l.least - 201, false, 0, "0", l.least, under},
			{impl.RmAway, half, l.least - 201, false, 0, "0", l.least, under},
			{impl.RmCeil, "1", l.least - 201, false, 0, "1", l.least, under},
			{impl.RmAway, "9", l.least - 5000, false, 0, "0", l.least, under},
			{impl.RmCeil, "9", l.least - 5000, true, 0, "1", l.least, under},
		})
	}
}

// TestFinishRest: something stands behind digits that are fewer than the
// format's, as many, and more. Of just as many the words let one digit go.
func TestFinishRest(t *testing.T) {
	for _, l := range wordLayouts {
		p, wide := l.digits, int64(l.digits)
		one := "1" + noughts(p-1)
		checkFinishCases(t, l, []finishCase{
			{impl.RmEven, "1", 0, true, 0, one, 1 - wide, inexact},
			{impl.RmZero, "1", 0, true, 0, one, 1 - wide, inexact},
			{impl.RmAway, "1", 0, true, 0, one, 1 - wide, inexact},
			{impl.RmCeil, "1", 0, true, 0, bumped(one), 1 - wide, inexact},
			{impl.RmFloor, "1", 0, true, 0, one, 1 - wide, inexact},
			{impl.RmEven, "9", 7, true, 0, "9" + noughts(p-1), 8 - wide, inexact},
			{impl.RmEven, head(p - 1), 0, true, 0, head(p-1) + "0", -1, inexact},
			{impl.RmCeil, head(p - 1), 0, true, 0, head(p-1) + "1", -1, inexact},
			{impl.RmZero, head(p), 0, true, 0, head(p - 1), 1, inexact},
			{impl.RmCeil, head(p), 0, true, 0, bumped(head(p - 1)), 1, inexact},
			{impl.RmEven, head(p-1) + "5", 0, true, 0, bumped(head(p - 1)), 1, inexact},
			{impl.RmEven, head(p-1) + "4", 0, true, 0, head(p - 1), 1, inexact},
			{impl.RmEven, head(p) + "5", 0, true, 0, bumped(head(p)), 1, inexact},
			{impl.RmEven, head(p) + "4", 0, true, 0, head(p), 1, inexact},
			{impl.RmCeil, head(p) + "0", 0, true, 0, bumped(head(p)), 1, inexact},
			{impl.RmZero, head(200), 0, true, 0, head(p), 200 - wide, inexact},
			// Near the least Exp the noughts that came go again.
			{impl.RmEven, "1", l.least, true, 0, "1", l.least, under},
			{impl.RmCeil, "1", l.least, true, 0, "2", l.least, under},
			{impl.RmEven, "5", l.least - 1, true, 0, "1", l.least, under},
			{impl.RmEven, "4", l.least - 1, true, 0, "0", l.least, under},
			{impl.RmZero, "123", l.least + 1, true, 0, "1230", l.least, under},
			{impl.RmZero, head(p), l.least, true, 0, head(p - 1), l.least + 1, inexact},
			{impl.RmZero, head(p), l.least - 1, true, 0, head(p - 1), l.least, under},
		})
	}
}

// TestFinishCarries: a rounding makes one digit more than the format has.
func TestFinishCarries(t *testing.T) {
	for _, l := range wordLayouts {
		p := l.digits
		one := tenPowerText(p - 1)
		checkFinishCases(t, l, []finishCase{
			{impl.RmEven, nines(p + 1), 0, false, 0, one, 2, inexact},
			{impl.RmAway, nines(p) + "5", 0, false, 0, one, 2, inexact},
			{impl.RmEven, nines(p) + "5", 0, false, 0, one, 2, inexact},
			{impl.RmEven, nines(p) + "4", 0, false, 0, nines(p), 1, inexact},
			{impl.RmCeil, nines(p) + "1", -7, false, 0, one, -5, inexact},
			{impl.RmZero, nines(p + 1), 0, false, 0, nines(p), 1, inexact},
			{impl.RmCeil, nines(200), 0, false, 0, one, 201 - int64(p), inexact},
			{impl.RmCeil, nines(200), 0, true, 0, one, 201 - int64(p), inexact},
			{impl.RmCeil, nines(p), 0, true, 0, one, 1, inexact},
			{impl.RmEven, nines(p), 0, false, 0, nines(p), 0, 0},
			{impl.RmCeil, nines(p + 1), l.least - 1, false, 0, one, l.least + 1, inexact},
			{impl.RmCeil, nines(p + 1), l.least - 2, false, 0, one, l.least, under},
		})
	}
}

// TestFinishPreferred is the first half of point 3.
func TestFinishPreferred(t *testing.T) {
	for _, l := range wordLayouts {
		p, wide := l.digits, int64(l.digits)
		checkFinishCases(t, l, []finishCase{
			{impl.RmEven, "1000", 0, false, 0, "1000", 0, 0},
			{impl.RmEven, "1000", 0, false, 2, "10", 2, 0},
			{impl.RmEven, "1000", 0, false, 3, "1", 3, 0},
			{impl.RmEven, "1000", 0, false, 4, "1", 3, 0},
			{impl.RmEven, "1000", 0, false, 100, "1", 3, 0},
			{impl.RmEven, "10203000", 0, false, 100, "10203", 3, 0},
			{impl.RmEven, "7", 0, false, 5, "7", 0, 0},
			{impl.RmEven, "1000", l.greatest - 1, false, l.greatest + 9, "100", l.greatest, 0},
			{impl.RmEven, "1000", l.greatest, false, l.greatest + 9, "1000", l.greatest, 0},
			{impl.RmEven, "1000", l.greatest - 3, false, l.greatest, "1", l.greatest, 0},
			{impl.RmEven, "1", 5, false, 0, "100000", 0, 0},
			{impl.RmEven, "1", 5, false, 4, "10", 4, 0},
			{impl.RmEven, "1", wide - 1, false, 0, tenPowerText(p - 1), 0, 0},
			{impl.RmEven, "1", wide, false, 0, tenPowerText(p - 1), 1, 0},
			{impl.RmEven, head(p), 9, false, 0, head(p), 9, 0},
			{impl.RmEven, "1", l.least + 1, false, l.least, "10", l.least, 0},
			{impl.RmEven, "1", l.least + 1, false, l.least - 9, "10", l.least, 0},
			{impl.RmEven, "1", l.least, false, l.least - 9, "1", l.least, 0},
			{impl.RmEven, "100", l.least - 2, false, l.least - 2, "1", l.least, 0},
			{impl.RmEven, "1000", l.least - 2, false, l.least - 2, "10", l.least, 0},
			{impl.RmEven, "1000", l.least - 2, false, l.least + 9, "1", l.least + 1, 0},
			{impl.RmEven, head(3) + noughts(197), 0, false, 500, "123", 197, 0},
			{impl.RmEven, head(3) + noughts(197), 0, false, 196, "1230", 196, 0},
			{impl.RmEven, head(3) + noughts(197), 0, false, 0, "123" + noughts(p-3), 200 - wide, 0},
		})
	}
}

// TestFinishRoundedStays: where something was rounded off, no digit comes or
// goes for the preferred exponent's sake.
func TestFinishRoundedStays(t *testing.T) {
	for _, l := range wordLayouts {
		p := l.digits
		one := tenPowerText(p - 1)
		checkFinishCases(t, l, []finishCase{
			{impl.RmZero, one + "1", 0, false, 5, one, 1, inexact},
			{impl.RmZero, one + "1", 0, false, -5, one, 1, inexact},
			{impl.RmZero, "5", 0, true, 5, "5" + noughts(p-1), int64(1 - p), inexact},
			{impl.RmZero, head(p), 0, true, -5, head(p - 1), 1, inexact},
			{impl.RmZero, "1001", l.least - 1, false, 9, "100", l.least, under},
			{impl.RmEven, nines(p + 1), 0, false, 9, one, 2, inexact},
			{impl.RmEven, "1", l.least - 1, false, 9, "0", l.least, under},
		})
	}
}

// TestFinishUnder: just below the least number that has all digits, and at it.
func TestFinishUnder(t *testing.T) {
	for _, l := range wordLayouts {
		p := l.digits
		one := tenPowerText(p - 1)
		checkFinishCases(t, l, []finishCase{
			{impl.RmEven, nines(p + 1), l.least - 2, false, 0, one, l.least, under},
			{impl.RmZero, nines(p + 1), l.least - 2, false, 0, nines(p - 1), l.least, under},
			{impl.RmCeil, nines(p - 1), l.least, true, 0, one, l.least, under},
			{impl.RmEven, nines(200), l.least - 201 + int64(p), false, 0, one, l.least, under},
			{impl.RmEven, one + "01", l.least - 2, false, 0, one, l.least, inexact},
			{impl.RmEven, one + "0", l.least - 1, true, 0, one, l.least, inexact},
			{impl.RmEven, one + noughts(p), l.least - int64(p), true, 0, one, l.least, inexact},
			{impl.RmEven, "1", l.least + int64(p) - 1, true, 0, one, l.least, inexact},
			{impl.RmEven, "1", l.least + int64(p) - 2, true, 0, tenPowerText(p - 2), l.least, under},
			{impl.RmEven, one + "0", l.least - 1, false, l.least, one, l.least, 0},
			{impl.RmEven, nines(p - 1), l.least, false, l.least, nines(p - 1), l.least, 0},
			{impl.RmEven, "1", l.least, false, l.least, "1", l.least, 0},
			{impl.RmEven, "10", l.least - 1, false, l.least, "1", l.least, 0},
			{impl.RmEven, "4", l.least - 1, false, l.least, "0", l.least, under},
			{impl.RmEven, "5", l.least - 1, false, 7, "0", l.least, under},
			{impl.RmAway, "5", l.least - 1, false, 7, "1", l.least, under},
			{impl.RmFloor, "9", l.least - 1, false, l.greatest, "0", l.least, under},
			{impl.RmZero, "9", l.least - 1, true, l.least - 1, "0", l.least, under},
		})
	}
}

// TestFinishGreatest: what the format's digits still hold, all of it finite.
func TestFinishGreatest(t *testing.T) {
	for _, l := range wordLayouts {
		p, wide := l.digits, int64(l.digits)
		checkFinishCases(t, l, []finishCase{
			{impl.RmEven, "1", l.greatest, false, l.greatest, "1", l.greatest, 0},
			{impl.RmEven, "1", l.greatest + 1, false, l.greatest + 1, "10", l.greatest, 0},
			{impl.RmEven, "1", l.greatest + wide - 1, false, 200000, tenPowerText(p - 1), l.greatest, 0},
			{impl.RmEven, "99", l.greatest + wide - 2, false, 0, "99" + noughts(p-2), l.greatest, 0},
			{impl.RmEven, head(p - 1), l.greatest + 1, false, 0, head(p-1) + "0", l.greatest, 0},
			{impl.RmEven, nines(p), l.greatest, false, l.greatest, nines(p), l.greatest, 0},
			{impl.RmEven, nines(p) + "4", l.greatest - 1, false, 0, nines(p), l.greatest, inexact},
			{impl.RmZero, nines(p + 1), l.greatest - 1, false, 0, nines(p), l.greatest, inexact},
			{impl.RmZero, head(p), l.greatest, true, 0, head(p-1) + "0", l.greatest, inexact},
			{impl.RmZero, head(p - 1), l.greatest + 1, true, 0, head(p-1) + "0", l.greatest, inexact},
		})
	}
}

// TestFinishOver: each mode and sign where the digits hold it no more.
func TestFinishOver(t *testing.T) {
	for _, l := range wordLayouts {
		p, wide := l.digits, int64(l.digits)
		for _, c := range []finishing{
			{0, false, "1", l.greatest + wide, false, 0}, {0, false, "1", 200000, false, 200000},
			{0, false, "12", l.greatest + wide - 1, false, l.greatest}, {0, false, head(p), l.greatest + 1, false, 0},
			{0, false, head(p + 1), l.greatest, false, 0}, {0, false, head(200), l.greatest, true, l.least},
			{0, false, head(p), l.greatest + 1, true, 0}, {0, false, "1", l.greatest + wide, true, 0},
			{0, false, head(p) + noughts(2), l.greatest - 1, false, 0},
		} {
			for _, mode := range allModes {
				for _, neg := range bothSigns {
					c.mode, c.neg = mode, neg
					finiteStill := mode == impl.RmZero || mode == impl.RmFloor && !neg || mode == impl.RmCeil && neg
					want := impl.Result{Num: impl.Num{Kind: impl.NkInf, Neg: neg}, Flags: over}
					if finiteStill {
						want.Num = finite(neg, nines(p), l.greatest)
					}
					if got := c.in(l.format); got != want {
						t.Errorf("%d: %+v gives %+v, not %+v", l.format, c, got, want)
					}
				}
			}
		}
		for _, neg := range bothSigns {
			// All nines, and a rounding that alone leads out of the format.
			c := finishing{impl.RmEven, neg, nines(p) + "5", l.greatest - 1, false, 0}
			if got, want := c.in(l.format), (impl.Result{Num: impl.Num{Kind: impl.NkInf, Neg: neg}, Flags: over}); got != want {
				t.Errorf("%d: %+v gives %+v, not %+v", l.format, c, got, want)
			}
		}
	}
}

// finishedAnew goes through the chapter's points one by one, a digit a time.
func finishedAnew(t *testing.T, l wordLayout, c finishing) impl.Result {
	t.Helper()
	if c.digits == "0" {
		exp := c.want
		for exp < l.least {
			exp++
		}
		for exp > l.greatest {
			exp--
		}
		return impl.Result{Num: finite(c.neg, "0", exp)}
	}
	digits, exp, lost := droppedAnew(t, l, c)
	flags := int64(0)
	if lost {
		flags = inexact
		if isSmallAnew(t, l, c) {
			flags = under
		}
	}
	for !lost && exp < c.want && digits[len(digits)-1] == '0' && len(digits) > 1 && exp < l.greatest {
		digits, exp = digits[:len(digits)-1], exp+1
	}
	for !lost && exp > c.want && len(digits) < l.digits && exp > l.least {
		digits, exp = digits+"0", exp-1
	}
	for exp > l.greatest && len(digits) < l.digits {
		digits, exp = digits+"0", exp-1
	}
	if exp <= l.greatest {
		return impl.Result{Num: finite(c.neg, digits, exp), Flags: flags}
	}
	switch {
	case c.mode == impl.RmZero, c.mode == impl.RmFloor && !c.neg, c.mode == impl.RmCeil && c.neg:
		return impl.Result{Num: finite(c.neg, nines(l.digits), l.greatest), Flags: over}
	}
	return impl.Result{Num: impl.Num{Kind: impl.NkInf, Neg: c.neg}, Flags: over}
}

// droppedAnew is point 2.
func droppedAnew(t *testing.T, l wordLayout, c finishing) (string, int64, bool) {
	t.Helper()
	digits, exp, drop := c.digits, c.exp, int64(0)
	if c.rest {
		drop = 1
		for few := len(digits) < l.digits; few && len(digits) < l.digits+1; {
			digits, exp = digits+"0", exp-1
		}
	}
	for int64(len(digits))-drop > int64(l.digits) || exp+drop < l.least {
		drop++
	}
	rounded, lost := "", true
	if drop > mostNatural {
		rounded, _ = roundedAnew(t, c.mode, c.neg, "1", mostNatural, true)
	} else {
		rounded, lost = roundedAnew(t, c.mode, c.neg, digits, drop, c.rest)
	}
	exp += drop
	if len(rounded) == l.digits+1 {
		rounded, exp = rounded[:l.digits], exp+1
	}
	return rounded, exp, lost
}

// isSmallAnew holds the exact result against 10 to the (least + p - 1). What
// stands behind is less than a unit, so it never makes up what is missing.
func isSmallAnew(t *testing.T, l wordLayout, c finishing) bool {
	t.Helper()
	bound := l.least + int64(l.digits) - 1
	return c.exp < bound && bigNatural(t, c.digits).Cmp(tenTo(int(bound-c.exp))) < 0
}

// drawnFinishing stands mostly where something turns in the format.
func drawnFinishing(d *draws, l wordLayout) finishing {
	p := int64(l.digits)
	sizes := []int64{d.within(1, mostNatural), d.within(p-2, p+3), d.within(1, p), d.within(1, 4)}
	digits := d.natural(int(sizes[d.within(0, 3)]))
	size := int64(len(digits))
	exps := []int64{
		d.within(l.least-size-3, l.least+3), d.within(l.least-3, l.least+p), d.within(l.greatest-3, l.greatest+p+2),
		d.within(l.greatest-size+p-3, l.greatest-size+p+3), d.within(-40, 40), l.least - d.within(195, 205),
	}
	exp := exps[d.within(0, 5)]
	wants := []int64{exp, exp + d.within(-3, 3), exp + d.within(-220, 220), d.within(l.least-3, l.least+3), d.within(l.greatest-3, l.greatest+3)}
	return finishing{0, d.either(), digits, exp, d.within(0, 3) == 0, wants[d.within(0, 4)]}
}

func TestFinishDrawn(t *testing.T) {
	for _, l := range wordLayouts {
		d := &draws{uint64(l.format)}
		for range 30000 {
			c := drawnFinishing(d, l)
			for _, c.mode = range allModes {
				want, got := finishedAnew(t, l, c), c.in(l.format)
				if got != want {
					t.Fatalf("%d: %+v gives %+v, not %+v", l.format, c, got, want)
				}
			}
		}
	}
}

// compareNums goes by value; an infinity lies beyond all others.
func compareNums(t *testing.T, a, b impl.Num) int {
	t.Helper()
	if a.Kind == impl.NkInf || b.Kind == impl.NkInf {
		return endOf(a) - endOf(b)
	}
	lower := min(a.Exp, b.Exp)
	return unitsOf(t, a, lower).Cmp(unitsOf(t, b, lower))
}

func endOf(n impl.Num) int {
	switch {
	case n.Kind != impl.NkInf:
		return 0
	case n.Neg:
		return -1
	}
	return 1
}

// unitsOf is how many times 10 to the exp a finite number is.
func unitsOf(t *testing.T, n impl.Num, exp int64) *big.Int {
	t.Helper()
	units := new(big.Int).Mul(bigNatural(t, n.Digits), tenTo(int(n.Exp-exp)))
	if n.Neg {
		units.Neg(units)
	}
	return units
}

// TestFinishPromise is promise 12, held against nothing but values: a result is
// right in its format, exact where there is no flag, and lies between those
// downward and upward, as the exact result does.
func TestFinishPromise(t *testing.T) {
	for _, l := range wordLayouts {
		d := &draws{uint64(l.format) + 1}
		for range 8000 {
			c := drawnFinishing(d, l)
			exact := finite(c.neg, c.digits, c.exp)
			c.mode = impl.RmFloor
			down := c.in(l.format).Num
			c.mode = impl.RmCeil
			up := c.in(l.format).Num
			if compareNums(t, down, exact) > 0 || compareNums(t, exact, up) > 0 {
				t.Fatalf("%d: %+v is not from %+v to %+v", l.format, c, down, up)
			}
			if c.rest && compareNums(t, down, up) == 0 {
				t.Fatalf("%d: %+v is %+v both downward and upward", l.format, c, down)
			}
			for _, c.mode = range allModes {
				got := c.in(l.format)
				if !impl.NumOk(l.format, got.Num) || got.Num.Neg != c.neg {
					t.Fatalf("%d: %+v gives %+v, which is not right", l.format, c, got)
				}
				if compareNums(t, down, got.Num) > 0 || compareNums(t, got.Num, up) > 0 {
					t.Fatalf("%d: %+v gives %+v, which is not from %+v to %+v", l.format, c, got, down, up)
				}
				isExact := !c.rest && compareNums(t, got.Num, exact) == 0
				if isExact != (got.Flags == 0) {
					t.Fatalf("%d: %+v gives %+v, and that is exact: %v", l.format, c, got, isExact)
				}
			}
		}
	}
}

// TestFinishNearest: no number of the format is nearer than the one to which a
// mode rounds to the nearest, downward or upward.
func TestFinishNearest(t *testing.T) {
	for _, l := range wordLayouts {
		d := &draws{uint64(l.format) + 2}
		for range 8000 {
			c := drawnFinishing(d, l)
			c.rest = false
			exact := finite(c.neg, c.digits, c.exp)
			c.mode = impl.RmFloor
			down := c.in(l.format).Num
			c.mode = impl.RmCeil
			up := c.in(l.format).Num
			if down.Kind == impl.NkInf || up.Kind == impl.NkInf {
				continue
			}
			lower := min(c.exp, down.Exp, up.Exp)
			number := unitsOf(t, exact, lower)
			fromDown := new(big.Int).Sub(number, unitsOf(t, down, lower))
			fromUp := new(big.Int).Sub(unitsOf(t, up, lower), number)
			for _, c.mode = range []int64{impl.RmEven, impl.RmAway} {
				got := c.in(l.format).Num
				if near := fromDown.Cmp(fromUp); near < 0 && got != down || near > 0 && got != up {
					t.Fatalf("%d: %+v gives %+v, not the nearer of %+v and %+v", l.format, c, got, down, up)
				}
			}
		}
	}
}
