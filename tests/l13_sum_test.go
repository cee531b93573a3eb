package tests

import (
	"testing"

	"loop.example/g00085/impl"
)

// p64 is how many digits the format has, to be reckoned with as an Exp.
func p64(l wordLayout) int64 {
	return int64(l.digits)
}

func turned(n impl.Num) impl.Num {
	n.Neg = !n.Neg
	return n
}

// checkSum holds Add against the result, both ways, and Sub of the other
// sign with it.
func checkSum(t *testing.T, format, mode int64, a, b impl.Num, want impl.Result) {
	t.Helper()
	for name, got := range map[string]impl.Result{
		"a + b": impl.Add(format, mode, a, b), "b + a": impl.Add(format, mode, b, a),
		"a - -b": impl.Sub(format, mode, a, turned(b)), "b - -a": impl.Sub(format, mode, b, turned(a)),
	} {
		if got != want {
			t.Errorf("%d, %d, %+v, %+v: %s = %+v, not %+v", format, mode, a, b, name, got, want)
		}
	}
}

// checkSumMirrored takes in the same below 0, where downward and upward change
// places.
func checkSumMirrored(t *testing.T, format, mode int64, a, b impl.Num, want impl.Result) {
	t.Helper()
	checkSum(t, format, mode, a, b, want)
	want.Num = turned(want.Num)
	checkSum(t, format, otherWay(mode), turned(a), turned(b), want)
}

// sumCase is what two numbers become by all modes alike.
type sumCase struct {
	a, b, want impl.Num
}

func checkSumCases(t *testing.T, l wordLayout, flags int64, cases []sumCase) {
	t.Helper()
	for _, c := range cases {
		for _, mode := range allModes {
			checkSumMirrored(t, l.format, mode, c.a, c.b, impl.Result{Num: c.want, Flags: flags})
		}
	}
}

// TestAddNoughts: each pair of signs, with Exps alike and unlike; the lesser is
// preferred.
func TestAddNoughts(t *testing.T) {
	for _, l := range wordLayouts {
		exps := []int64{l.least, l.least + 1, -7, 0, 7, l.greatest - 1, l.greatest}
		for _, mode := range allModes {
			for _, one := range exps {
				for _, other := range exps {
					exp := min(one, other)
					checkSum(t, l.format, mode, finite(false, "0", one), finite(false, "0", other), plainly(finite(false, "0", exp)))
					checkSum(t, l.format, mode, finite(true, "0", one), finite(true, "0", other), plainly(finite(true, "0", exp)))
					checkSum(t, l.format, mode, finite(false, "0", one), finite(true, "0", other), plainly(finite(mode == impl.RmFloor, "0", exp)))
				}
			}
		}
	}
}

// TestSubNoughts says of Sub alone what the signs of noughts make.
func TestSubNoughts(t *testing.T) {
	for _, l := range wordLayouts {
		for _, mode := range allModes {
			below := mode == impl.RmFloor
			for _, c := range []struct{ a, b, want bool }{
				{false, false, below}, {true, true, below}, {false, true, false}, {true, false, true},
			} {
				for _, exps := range [][2]int64{{0, 0}, {3, -5}, {-5, 3}, {l.least, l.greatest}, {l.greatest, l.least}} {
					got := impl.Sub(l.format, mode, finite(c.a, "0", exps[0]), finite(c.b, "0", exps[1]))
					if want := plainly(finite(c.want, "0", min(exps[0], exps[1]))); got != want {
						t.Errorf("%d, %d, %+v, %v: %+v, not %+v", l.format, mode, c, exps, got, want)
					}
				}
			}
		}
	}
}

// TestAddToNought: what is added to 0 stays what it is, told by the lesser Exp
// as far as the digits let it be.
func TestAddToNought(t *testing.T) {
	for _, l := range wordLayouts {
		p, wide := l.digits, p64(l)
		for _, neg := range bothSigns {
			checkSumCases(t, l, 0, []sumCase{
				{finite(false, "7", 0), finite(neg, "0", 0), finite(false, "7", 0)},
				{finite(false, "7", 0), finite(neg, "0", 9), finite(false, "7", 0)},
				{finite(false, "7", 0), finite(neg, "0", -2), finite(false, "700", -2)},
				{finite(false, "70", 0), finite(neg, "0", 1), finite(false, "70", 0)},
				{finite(false, "7", 0), finite(neg, "0", 1-wide), finite(false, "7"+noughts(p-1), 1-wide)},
				{finite(false, "7", 0), finite(neg, "0", -wide), finite(false, "7"+noughts(p-1), 1-wide)},
				{finite(false, "7", 0), finite(neg, "0", l.least), finite(false, "7"+noughts(p-1), 1-wide)},
				{finite(false, "7", l.greatest), finite(neg, "0", l.least), finite(false, "7"+noughts(p-1), l.greatest+1-wide)},
				{finite(false, "7", l.least), finite(neg, "0", l.greatest), finite(false, "7", l.least)},
				{finite(false, head(p), 5), finite(neg, "0", l.least), finite(false, head(p), 5)},
				{finite(false, head(p), 5), finite(neg, "0", l.greatest), finite(false, head(p), 5)},
			})
		}
	}
}

// TestAddToZero: a sum of 0 of two numbers that are none has no sign, but Neg
// downward.
func TestAddToZero(t *testing.T) {
	for _, l := range wordLayouts {
		p, wide := l.digits, p64(l)
		for _, c := range []struct {
			a, b impl.Num
			exp  int64
		}{
			{finite(false, "1", 0), finite(true, "1", 0), 0},
			{finite(false, head(p), -7), finite(true, head(p), -7), -7},
			{finite(false, nines(p), l.greatest), finite(true, nines(p), l.greatest), l.greatest},
			{finite(false, "1", l.least), finite(true, "1", l.least), l.least},
			{finite(false, "1", 1), finite(true, "10", 0), 0},
			{finite(false, "12300", -2), finite(true, "123", 0), -2},
			{finite(false, "5", 0), finite(true, "5"+noughts(p-1), 1-wide), 1 - wide},
			{finite(false, "5"+noughts(p-1), l.greatest+1-wide), finite(true, "5", l.greatest), l.greatest + 1 - wide},
		} {
			for _, mode := range allModes {
				want := plainly(finite(mode == impl.RmFloor, "0", c.exp))
				checkSum(t, l.format, mode, c.a, c.b, want)
				checkSum(t, l.format, mode, turned(c.a), turned(c.b), want)
			}
		}
	}
}

func TestAddExact(t *testing.T) {
	for _, l := range wordLayouts {
		p, wide := l.digits, p64(l)
		one := tenPowerText(p - 1)
		checkSumCases(t, l, 0, []sumCase{
			{finite(false, "2", 0), finite(false, "3", 0), finite(false, "5", 0)},
			{finite(false, "2", 0), finite(true, "3", 0), finite(true, "1", 0)},
			{finite(false, "7", 1), finite(false, "3", -1), finite(false, "703", -1)},
			{finite(false, "7", 1), finite(true, "3", -1), finite(false, "697", -1)},
			{finite(false, "1", 0), finite(false, "99", -1), finite(false, "109", -1)},
			{finite(false, "50", 0), finite(false, "50", 0), finite(false, "100", 0)},
			{finite(false, "5", 1), finite(false, "50", 0), finite(false, "100", 0)},
			{finite(false, "1", 3), finite(false, "1", 5), finite(false, "101", 3)},
			// A carry to one digit more, within the format's digits and beyond.
			{finite(false, nines(p-1), 0), finite(false, "1", 0), finite(false, one, 0)},
			{finite(false, nines(p), 0), finite(false, "1", 0), finite(false, one, 1)},
			{finite(false, nines(p), -3), finite(false, "11", -3), finite(false, one[:p-1]+"1", -2)},
			{finite(false, "5"+noughts(p-1), l.least), finite(false, "5"+noughts(p-1), l.least), finite(false, one, l.least+1)},
			// Digits that cancel.
			{finite(false, head(p), 0), finite(true, head(p-1)+"0", 0), finite(false, head(p)[p-1:], 0)},
			{finite(false, one, 0), finite(true, nines(p-1), 0), finite(false, "1", 0)},
			{finite(false, one, 0), finite(true, nines(p), -1), finite(false, "1", -1)},
			{finite(false, "1", 0), finite(true, nines(p), -wide), finite(false, "1", -wide)},
			{finite(false, "1", wide), finite(true, nines(p), 0), finite(false, "1", 0)},
			{finite(false, "1001", 0), finite(true, "1", 0), finite(false, "1000", 0)},
			// More digits than the format has, but noughts behind.
			{finite(false, one, 0), finite(false, one, -1), finite(false, "11"+noughts(p-2), 0)},
			{finite(false, "1", 0), finite(false, one, 1-wide), finite(false, "2"+noughts(p-1), 1-wide)},
			{finite(false, nines(p), 1), finite(false, "10", 0), finite(false, one, 2)},
			// Below the least number that has all digits a sum is exact.
			{finite(false, "1", l.least), finite(false, "1", l.least), finite(false, "2", l.least)},
			{finite(false, "9", l.least), finite(false, "1", l.least), finite(false, "10", l.least)},
			{finite(false, "1", l.least+1), finite(true, "1", l.least), finite(false, "9", l.least)},
			{finite(false, one, l.least), finite(true, "1", l.least), finite(false, nines(p-1), l.least)},
			{finite(false, one, l.least), finite(true, nines(p-1), l.least), finite(false, "1", l.least)},
			{finite(false, "1", l.least+wide), finite(true, nines(p), l.least), finite(false, "1", l.least)},
			// At the greatest Exp.
			{finite(false, "1", l.greatest), finite(false, "1", l.greatest), finite(false, "2", l.greatest)},
			{finite(false, nines(p-1)+"8", l.greatest), finite(false, "1", l.greatest), finite(false, nines(p), l.greatest)},
		})
	}
}

// modeDigits are the digits of a number above 0 by each mode, in their order.
type modeDigits [5]string

func TestAddRounded(t *testing.T) {
	for _, l := range wordLayouts {
		p := l.digits
		one, two := tenPowerText(p-1), bumped(tenPowerText(p-1))
		for _, c := range []struct {
			a, b impl.Num
			want modeDigits
			exp  int64
		}{
			{finite(false, one, 1), finite(false, "5", 0), modeDigits{one, one, one, two, two}, 1},
			{finite(false, two, 1), finite(false, "5", 0), modeDigits{bumped(two), two, two, bumped(two), bumped(two)}, 1},
			{finite(false, one, 1), finite(false, "6", 0), modeDigits{two, one, one, two, two}, 1},
			{finite(false, one, 1), finite(false, "4", 0), modeDigits{one, one, one, two, one}, 1},
			{finite(false, one, 2), finite(false, "50", 0), modeDigits{one, one, one, two, two}, 2},
			{finite(false, one, 2), finite(false, "51", 0), modeDigits{two, one, one, two, two}, 2},
			{finite(false, one, 2), finite(false, "49", 0), modeDigits{one, one, one, two, one}, 2},
			{finite(false, two, 1), finite(true, "5", 0), modeDigits{one, one, one, two, two}, 1},
			{finite(false, two, 1), finite(true, "4", 0), modeDigits{two, one, one, two, two}, 1},
			{finite(false, nines(p), 0), finite(false, "2", 0), modeDigits{one, one, one, two, one}, 1},
			{finite(false, nines(p), 0), finite(false, "6", 0), modeDigits{one, one, one, two, two}, 1},
			{finite(false, nines(p), 0), finite(false, "16", 0), modeDigits{bumped(two), two, two, bumped(two), bumped(two)}, 1},
			{finite(false, one, p64(l)), finite(false, nines(p), 0), modeDigits{two, one, one, two, two}, p64(l)},
			{finite(false, one, p64(l)+1), finite(false, nines(p), 0), modeDigits{one, one, one, two, one}, p64(l) + 1},
			{finite(false, one, p64(l)), finite(false, "5"+noughts(p-1), 0), modeDigits{one, one, one, two, two}, p64(l)},
			{finite(false, one, p64(l)), finite(false, "5"+noughts(p-2)+"1", 0), modeDigits{two, one, one, two, two}, p64(l)},
			{finite(false, one, p64(l)), finite(false, "4"+nines(p-1), 0), modeDigits{one, one, one, two, one}, p64(l)},
		} {
			for i, mode := range allModes {
				want := impl.Result{Num: finite(false, c.want[i], c.exp), Flags: inexact}
				checkSumMirrored(t, l.format, mode, c.a, c.b, want)
			}
		}
	}
}

// TestAddOver: a sum that passes the greatest number, and one that rounding
// alone may lead out.
func TestAddOver(t *testing.T) {
	for _, l := range wordLayouts {
		p, greatest := l.digits, finite(false, nines(l.digits), l.greatest)
		half := finite(false, "5"+noughts(p-1), l.greatest-p64(l))
		for _, c := range []struct {
			a, b  impl.Num
			want  [5]bool // whether by each mode it is an infinity
			flags int64
		}{
			{greatest, greatest, [5]bool{true, false, false, true, true}, over},
			{greatest, finite(false, "1", l.greatest), [5]bool{true, false, false, true, true}, over},
			{finite(false, "5"+noughts(p-1), l.greatest), finite(false, "5"+noughts(p-1), l.greatest), [5]bool{true, false, false, true, true}, over},
			{greatest, half, [5]bool{true, false, false, true, true}, 0},
			{greatest, finite(false, "4"+nines(p-1), l.greatest-p64(l)), [5]bool{false, false, false, true, false}, 0},
			{greatest, finite(false, "1", l.least), [5]bool{false, false, false, true, false}, 0},
			{greatest, finite(false, "1", 0), [5]bool{false, false, false, true, false}, 0},
		} {
			for i, mode := range allModes {
				want := impl.Result{Num: greatest, Flags: inexact | c.flags}
				if c.want[i] {
					want = impl.Result{Num: infinity(false), Flags: over}
				}
				checkSumMirrored(t, l.format, mode, c.a, c.b, want)
			}
		}
	}
}

// farCase is a number above 0 that has Exp 0, and what it becomes where it is
// rounded upward, to itself and downward because of something far below.
type farCase struct {
	digits, up, same, down  string
	upExp, sameExp, downExp int64
}

func farCases(l wordLayout) []farCase {
	p, wide := l.digits, p64(l)
	one := tenPowerText(p - 1)
	return []farCase{
		{"1", bumped(one), one, nines(p), 1 - wide, 1 - wide, -wide},
		{"10", bumped(one), one, nines(p), 2 - wide, 2 - wide, 1 - wide},
		{one, bumped(one), one, nines(p), 0, 0, -1},
		{"25", "25" + noughts(p-3) + "1", "25" + noughts(p-2), "24" + nines(p-2), 2 - wide, 2 - wide, 2 - wide},
		{head(p), bumped(head(p)), head(p), bumpedDown(head(p)), 0, 0, 0},
		{head(p - 1), head(p-1) + "1", head(p-1) + "0", bumpedDown(head(p-1)) + "9", -1, -1, -1},
		{nines(p), one, nines(p), nines(p-1) + "8", 1, 0, 0},
		{nines(p - 1), nines(p-1) + "1", nines(p-1) + "0", nines(p-2) + "89", -1, -1, -1},
	}
}

// bumpedDown has one less in its last digit, which is no 0.
func bumpedDown(digits string) string {
	last := len(digits) - 1
	return digits[:last] + string(digits[last]-1)
}

// wanted is what the case becomes by the mode where it has that Exp and what
// lies far below is below 0 or above it.
func (c farCase) wanted(mode, exp int64, lowNeg bool) impl.Result {
	num := finite(false, c.same, exp+c.sameExp)
	switch {
	case !lowNeg && mode == impl.RmCeil:
		num = finite(false, c.up, exp+c.upExp)
	case lowNeg && (mode == impl.RmFloor || mode == impl.RmZero):
		num = finite(false, c.down, exp+c.downExp)
	}
	return impl.Result{Num: num, Flags: inexact}
}

// farExps are Exps so far below exp that nothing with so many digits comes near
// to a half of what the format still tells, as far as the format's bounds let
// them be.
func farExps(l wordLayout, exp int64, size int) []int64 {
	nearest := exp - p64(l) - 2 - int64(size)
	exps := []int64{}
	for _, low := range []int64{
		nearest, nearest - 1, nearest - 2, nearest - 3, exp - 100, exp - 165, exp - 166, exp - 183, exp - 184, exp - 198, exp - 199, exp - 200,
		exp - 201, exp - 202, exp - 203, exp - 233, exp - 234, exp - 300, exp - 400, l.least + 1, l.least,
	} {
		if low <= nearest && low >= l.least {
			exps = append(exps, low)
		}
	}
	return exps
}

// highExps leave room for one digit more and, below, for something far away.
func highExps(l wordLayout) []int64 {
	return []int64{0, -100, 200, l.greatest - 1, l.least + 60 + 2*p64(l)}
}

// TestAddFar: the lesser one only decides how the greater is rounded.
func TestAddFar(t *testing.T) {
	for _, l := range wordLayouts {
		for _, c := range farCases(l) {
			for _, exp := range highExps(l) {
				for _, low := range []string{"1", "5", "9", "5" + noughts(l.digits-1), nines(l.digits)} {
					for _, lowExp := range farExps(l, exp, len(low)) {
						for _, lowNeg := range bothSigns {
							for _, mode := range allModes {
								a, b := finite(false, c.digits, exp), finite(lowNeg, low, lowExp)
								checkSumMirrored(t, l.format, mode, a, b, c.wanted(mode, exp, lowNeg))
							}
						}
					}
				}
			}
		}
	}
}

// TestAddFarthest: as far apart as the format's bounds let them be.
func TestAddFarthest(t *testing.T) {
	for _, l := range wordLayouts {
		for _, c := range farCases(l) {
			for _, lowNeg := range bothSigns {
				for _, mode := range allModes {
					want := c.wanted(mode, l.greatest, lowNeg)
					if want.Num.Exp > l.greatest {
						want = impl.Result{Num: infinity(false), Flags: over}
					}
					for _, low := range []string{"1", nines(l.digits)} {
						checkSumMirrored(t, l.format, mode, finite(false, c.digits, l.greatest), finite(lowNeg, low, l.least), want)
					}
				}
			}
		}
	}
}

func TestSub(t *testing.T) {
	for _, l := range wordLayouts {
		p := l.digits
		for _, c := range []sumCase{
			{finite(false, "5", 0), finite(false, "3", 0), finite(false, "2", 0)},
			{finite(false, "3", 0), finite(false, "5", 0), finite(true, "2", 0)},
			{finite(true, "3", 0), finite(false, "5", 0), finite(true, "8", 0)},
			{finite(false, "3", 0), finite(true, "5", 0), finite(false, "8", 0)},
			{finite(true, "3", 0), finite(true, "5", 0), finite(false, "2", 0)},
			{finite(false, "3", 1), finite(false, "5", -1), finite(false, "295", -1)},
			{finite(false, "0", -1), finite(false, "5", 0), finite(true, "50", -1)},
			{finite(false, "5", 0), finite(false, "0", -1), finite(false, "50", -1)},
			{finite(false, tenPowerText(p-1), 0), finite(false, "1", 0), finite(false, nines(p-1), 0)},
			{finite(false, "1", 0), finite(false, tenPowerText(p-1), 0), finite(true, nines(p-1), 0)},
		} {
			for _, mode := range allModes {
				if got := impl.Sub(l.format, mode, c.a, c.b); got != plainly(c.want) {
					t.Errorf("Sub(%d, %d, %+v, %+v) = %+v, not %+v", l.format, mode, c.a, c.b, got, c.want)
				}
			}
		}
	}
}
