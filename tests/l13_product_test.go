package tests

import (
	"testing"

	"loop.example/g00085/impl"
)

// checkProduct takes two numbers above 0 with each pair of signs and both ways.
func checkProduct(t *testing.T, format, mode int64, a, b impl.Num, want impl.Result) {
	t.Helper()
	for _, signs := range [][2]bool{{false, false}, {true, true}, {false, true}, {true, false}} {
		a.Neg, b.Neg, want.Num.Neg = signs[0], signs[1], signs[0] != signs[1]
		by := mode
		if want.Num.Neg {
			by = otherWay(mode)
		}
		for _, nums := range [][]impl.Num{{a, b}, {b, a}} {
			if got := impl.Mul(format, by, nums[0], nums[1]); got != want {
				t.Errorf("Mul(%d, %d, %+v) = %+v, not %+v", format, by, nums, got, want)
			}
		}
	}
}

func checkProductCases(t *testing.T, l wordLayout, cases []sumCase) {
	t.Helper()
	for _, c := range cases {
		for _, mode := range allModes {
			checkProduct(t, l.format, mode, c.a, c.b, plainly(c.want))
		}
	}
}

func above(digits string, exp int64) impl.Num {
	return finite(false, digits, exp)
}

func TestMulExact(t *testing.T) {
	for _, l := range wordLayouts {
		p, wide := l.digits, p64(l)
		checkProductCases(t, l, []sumCase{
			{above("2", 0), above("3", 0), above("6", 0)},
			{above("25", -1), above("25", -1), above("625", -2)},
			{above("25", 3), above("4", -5), above("100", -2)},
			{above("1", 0), above(head(p), 7), above(head(p), 7)},
			{above("1", -3), above(nines(p), 0), above(nines(p), -3)},
			{above("10", 0), above("10", 0), above("100", 0)},
			// Noughts behind go where there is no room for them.
			{above("10", 0), above(head(p), 0), above(head(p), 1)},
			{above(tenPowerText(p-1), 0), above(tenPowerText(p-1), 0), above(tenPowerText(p-1), wide-1)},
			{above("5"+noughts(p-1), 0), above("2", 0), above(tenPowerText(p-1), 1)},
			// Both Exp together, at the format's bounds and beyond them.
			{above("3", l.least), above("3", 0), above("9", l.least)},
			{above("3", l.least), above("3", 5), above("9", l.least+5)},
			{above("3", l.least+7), above("30", -8), above("9", l.least)},
			{above("30", l.least), above("30", -2), above("9", l.least)},
			{above("300", l.least), above("30", -2), above("90", l.least)},
			{above("3", l.greatest), above("3", 0), above("9", l.greatest)},
			{above("3", l.greatest), above("3", 2), above("900", l.greatest)},
			{above("3", l.greatest), above("3", wide-1), above("9"+noughts(p-1), l.greatest)},
			{above("3", l.greatest), above("3", -4), above("9", l.greatest-4)},
			{above("3", l.greatest), above("3", l.least), above("9", l.greatest+l.least)},
			{above(nines(p), l.greatest), above("1", 0), above(nines(p), l.greatest)},
			{above("1", l.least), above("1", 0), above("1", l.least)},
		})
	}
}

// TestMulNoughts: a product of 0 has the sign and the Exp that others have.
func TestMulNoughts(t *testing.T) {
	for _, l := range wordLayouts {
		for _, other := range []string{"0", "1", nines(l.digits)} {
			checkProductCases(t, l, []sumCase{
				{above("0", 0), above(other, 0), above("0", 0)},
				{above("0", 3), above(other, -7), above("0", -4)},
				{above("0", l.least), above(other, 0), above("0", l.least)},
				{above("0", l.least), above(other, -1), above("0", l.least)},
				{above("0", -1), above(other, l.least), above("0", l.least)},
				{above("0", l.least), above(other, l.least), above("0", l.least)},
				{above("0", l.greatest), above(other, 1), above("0", l.greatest)},
				{above("0", l.greatest), above(other, l.greatest), above("0", l.greatest)},
				{above("0", l.greatest), above(other, l.least), above("0", l.greatest+l.least)},
			})
		}
	}
}

// TestMulRounded: a product of as many digits as come is rounded once.
func TestMulRounded(t *testing.T) {
	for _, l := range wordLayouts {
		p, wide := l.digits, p64(l)
		three := "3" + noughts(p-2) + "1"
		half, more := "15"+noughts(p-2), "15"+noughts(p-3)+"1"
		most, less := nines(p), nines(p-1)+"8"
		one, two := tenPowerText(p-1), bumped(tenPowerText(p-1))
		for _, c := range []struct {
			a, b  impl.Num
			want  modeDigits
			exp   int64
			flags int64
		}{
			// 15..05 has just a half behind, 99..9800..01 next to nothing.
			{above(three, 0), above("5", 0), modeDigits{half, half, half, more, more}, 1, inexact},
			{above(nines(p), 0), above(nines(p), 0), modeDigits{less, less, less, most, less}, wide, inexact},
			{above(two, 0), above(two, 0), modeDigits{bumped(two), bumped(two), bumped(two), bumped(bumped(two)), bumped(two)}, wide - 1, inexact},
			// Below the least Exp all goes, or nearly all.
			{above("1", l.least), above("1", l.least), modeDigits{"0", "0", "0", "1", "0"}, l.least, under},
			{above("1", l.least), above("1", -1), modeDigits{"0", "0", "0", "1", "0"}, l.least, under},
			{above("5", l.least), above("1", -1), modeDigits{"0", "0", "0", "1", "1"}, l.least, under},
			{above("3", l.least), above("2", -1), modeDigits{"1", "0", "0", "1", "1"}, l.least, under},
			{above("3", l.least), above("5", -1), modeDigits{"2", "1", "1", "2", "2"}, l.least, under},
			{above("5", l.least), above("5", -1), modeDigits{"2", "2", "2", "3", "3"}, l.least, under},
			{above(nines(p), l.least), above(nines(p), l.least), modeDigits{"0", "0", "0", "1", "0"}, l.least, under},
			{above(nines(p), l.least), above("1", -wide), modeDigits{"1", "0", "0", "1", "1"}, l.least, under},
			{above(nines(p), l.least), above("1", -1), modeDigits{one, nines(p - 1), nines(p - 1), one, one}, l.least, under},
			// At the least number that has all digits, and just below it.
			{above("5"+noughts(p-2)+"1", l.least), above("2", -1), modeDigits{one, one, one, two, one}, l.least, inexact},
			{above("4"+nines(p-1), l.least), above("2", -1), modeDigits{one, nines(p - 1), nines(p - 1), one, one}, l.least, under},
		} {
			for i, mode := range allModes {
				want := impl.Result{Num: above(c.want[i], c.exp), Flags: c.flags}
				checkProduct(t, l.format, mode, c.a, c.b, want)
			}
		}
	}
}

func TestMulOver(t *testing.T) {
	for _, l := range wordLayouts {
		p, wide := l.digits, p64(l)
		greatest := above(nines(p), l.greatest)
		for _, c := range [][2]impl.Num{
			{greatest, greatest}, {greatest, above("2", 0)}, {greatest, above("1", 1)}, {above("1", l.greatest), above("1", wide)},
			{above("1", l.greatest), above("1", l.greatest)}, {above("5", l.greatest), above("2", wide-1)},
			{above(tenPowerText(p-1), l.greatest), above("10", 0)},
		} {
			for _, mode := range allModes {
				want := impl.Result{Num: infinity(false), Flags: over}
				if mode == impl.RmZero || mode == impl.RmFloor {
					want.Num = greatest
				}
				checkProduct(t, l.format, mode, c[0], c[1], want)
			}
		}
	}
}

func checkFma(t *testing.T, format, mode int64, a, b, c impl.Num, want impl.Result) {
	t.Helper()
	for _, nums := range [][]impl.Num{{a, b}, {b, a}, {turned(a), turned(b)}} {
		if got := impl.Fma(format, mode, nums[0], nums[1], c); got != want {
			t.Errorf("Fma(%d, %d, %+v, %+v) = %+v, not %+v", format, mode, nums, c, got, want)
		}
	}
}

// checkFmaMirrored takes in the same below 0.
func checkFmaMirrored(t *testing.T, format, mode int64, a, b, c impl.Num, want impl.Result) {
	t.Helper()
	checkFma(t, format, mode, a, b, c, want)
	want.Num = turned(want.Num)
	checkFma(t, format, otherWay(mode), turned(a), b, turned(c), want)
}

func TestFmaExact(t *testing.T) {
	for _, l := range wordLayouts {
		p, wide := l.digits, p64(l)
		one := tenPowerText(p - 1)
		for _, c := range []struct{ a, b, c, want impl.Num }{
			{above("2", 0), above("3", 0), above("4", 0), above("10", 0)},
			{above("2", 0), above("3", 0), finite(true, "4", 0), above("2", 0)},
			{above("2", 0), above("3", 0), finite(true, "9", 0), finite(true, "3", 0)},
			// The lesser of both Exp together, and c's.
			{above("2", -2), above("3", 1), above("4", 0), above("46", -1)},
			{above("2", 2), above("3", -3), above("4", -3), above("604", -3)},
			{above("20", 0), above("5", 0), above("1", 2), above("200", 0)},
			{above("20", 0), above("5", 0), above("1", 9), above("1000000100", 0)},
			{above("2", 1), above("5", 1), above("100", 0), above("1100", 0)},
			// A nought as each of them.
			{above("0", 0), above("3", 0), above("4", 0), above("4", 0)},
			{above("0", -2), above("3", 0), above("4", 0), above("400", -2)},
			{above("0", l.least), above("3", l.least), above("4", 0), above("4"+noughts(p-1), 1-wide)},
			{above("0", l.greatest), above("3", l.greatest), above("4", 0), above("4", 0)},
			{above("0", l.greatest), above("3", l.greatest), above("4", l.greatest), above("4", l.greatest)},
			{above("2", 0), above("3", 0), above("0", 0), above("6", 0)},
			{above("2", 0), above("3", 0), above("0", -2), above("600", -2)},
			{above("2", 0), above("3", 0), above("0", 9), above("6", 0)},
			{above("2", 0), above("3", 0), finite(true, "0", l.least), above("6"+noughts(p-1), 1-wide)},
			// More digits than the format has, until the sum is known.
			{above(nines(p), 0), above(nines(p), 0), finite(true, nines(p-1)+"8", wide), above("1", 0)},
			{above(bumped(one), 0), above(bumped(one), 0), finite(true, one[:p-1]+"2", wide-1), above("1", 0)},
			{above("1", l.greatest), above("1", wide), finite(true, nines(p), l.greatest), above("1", l.greatest)},
			{above("1", l.greatest), above("1", wide), finite(true, "9"+noughts(p-1), l.greatest), above("1"+noughts(p-1), l.greatest)},
			// A product below the least Exp that makes up with c what can be told.
			{above("10", l.least), above("1", -1), above("1", l.least), above("2", l.least)},
			{above("20", l.least), above("5", -2), finite(true, "3", l.least), finite(true, "2", l.least)},
		} {
			for _, mode := range allModes {
				checkFmaMirrored(t, l.format, mode, c.a, c.b, c.c, plainly(c.want))
			}
		}
	}
}

// TestFmaOnce: rounded once, where a product rounded first would give another
// result.
func TestFmaOnce(t *testing.T) {
	for _, l := range wordLayouts {
		p := l.digits
		three := above("3"+noughts(p-2)+"1", 0)
		half, more := "15"+noughts(p-2), "15"+noughts(p-3)+"1"
		for _, c := range []struct {
			c    impl.Num
			want modeDigits
			told bool // whether a product rounded first is another one
		}{
			{above("1", l.least), modeDigits{more, half, half, more, more}, true},
			{above("1", -300), modeDigits{more, half, half, more, more}, true},
			{above("1", -1), modeDigits{more, half, half, more, more}, true},
			{finite(true, "1", -1), modeDigits{half, half, half, more, half}, true},
			{finite(true, "1", -300), modeDigits{half, half, half, more, half}, true},
			{finite(true, nines(p), l.least), modeDigits{half, half, half, more, half}, true},
			{above("0", l.least), modeDigits{half, half, half, more, more}, false},
		} {
			differs := false
			for i, mode := range allModes {
				want := impl.Result{Num: above(c.want[i], 1), Flags: inexact}
				checkFmaMirrored(t, l.format, mode, three, above("5", 0), c.c, want)
				first := impl.Mul(l.format, mode, three, above("5", 0))
				differs = differs || impl.Add(l.format, mode, first.Num, c.c).Num != want.Num
			}
			if differs != c.told {
				t.Errorf("%d: with %+v a product rounded first gives another result: %v", l.format, c.c, differs)
			}
		}
	}
}

// TestFmaFar: a product and a c far apart, on both sides.
func TestFmaFar(t *testing.T) {
	for _, l := range wordLayouts {
		for _, c := range farCases(l) {
			for _, exp := range highExps(l) {
				for _, low := range []string{"1", "5", nines(l.digits)} {
					for _, lowExp := range farExps(l, exp, len(low)) {
						for _, lowNeg := range bothSigns {
							for _, mode := range allModes {
								want := c.wanted(mode, exp, lowNeg)
								checkFmaMirrored(t, l.format, mode, above(c.digits, exp-3), above("1", 3), finite(lowNeg, low, lowExp), want)
								checkFmaMirrored(t, l.format, mode, finite(lowNeg, low, lowExp+3), above("1", -3), above(c.digits, exp), want)
							}
						}
					}
				}
			}
		}
	}
}

// TestFmaFarthest: a product that lies beyond the format's bounds on either
// side, beside a c that has to decide or to be rounded.
func TestFmaFarthest(t *testing.T) {
	for _, l := range wordLayouts {
		p := l.digits
		one := tenPowerText(p - 1)
		most, least := above(nines(p), l.greatest), above("1", l.least)
		for _, c := range []struct {
			a, b, c impl.Num
			want    modeDigits
			exp     int64
			flags   int64
		}{
			{least, least, above("1", l.least), modeDigits{"1", "1", "1", "2", "1"}, l.least, under},
			{least, turned(least), above("1", l.least), modeDigits{"1", "0", "0", "1", "1"}, l.least, under},
			{least, least, above("0", 0), modeDigits{"0", "0", "0", "1", "0"}, l.least, under},
			{above(nines(p), l.least), above(nines(p), l.least), above("0", l.least), modeDigits{"0", "0", "0", "1", "0"}, l.least, under},
			{above("5", l.least), above("1", -1), above("1", l.least), modeDigits{"2", "1", "1", "2", "2"}, l.least, under},
			{above("5", l.least), above("1", -1), above("2", l.least), modeDigits{"2", "2", "2", "3", "3"}, l.least, under},
			{above("5", l.least), finite(true, "1", -1), above("2", l.least), modeDigits{"2", "1", "1", "2", "2"}, l.least, under},
			{least, turned(least), above(one, l.least), modeDigits{one, nines(p - 1), nines(p - 1), one, one}, l.least, under},
			{least, least, above(one, l.least), modeDigits{one, one, one, bumped(one), one}, l.least, inexact},
			{least, turned(least), above(bumped(one), l.least), modeDigits{bumped(one), one, one, bumped(one), bumped(one)}, l.least, inexact},
			{least, least, above("1", l.greatest), modeDigits{one, one, one, bumped(one), one}, l.greatest + 1 - p64(l), inexact},
			{least, turned(least), most, modeDigits{nines(p), nines(p-1) + "8", nines(p-1) + "8", nines(p), nines(p)}, l.greatest, inexact},
		} {
			for i, mode := range allModes {
				want := impl.Result{Num: above(c.want[i], c.exp), Flags: c.flags}
				checkFmaMirrored(t, l.format, mode, c.a, c.b, c.c, want)
			}
		}
	}
}

func TestFmaOver(t *testing.T) {
	for _, l := range wordLayouts {
		p := l.digits
		most := above(nines(p), l.greatest)
		for _, mode := range allModes {
			want := impl.Result{Num: infinity(false), Flags: over}
			if mode == impl.RmZero || mode == impl.RmFloor {
				want.Num = most
			}
			for _, c := range []impl.Num{above("0", 0), above("1", l.least), finite(true, "1", l.least), finite(true, nines(p), 0), most} {
				checkFmaMirrored(t, l.format, mode, most, most, c, want)
				checkFmaMirrored(t, l.format, mode, above("1", l.greatest), above("1", l.greatest), c, want)
			}
			checkFmaMirrored(t, l.format, mode, most, above("1", 0), above("1", l.greatest), want)
			// A product that alone would be too great is none with c.
			checkFmaMirrored(t, l.format, mode, most, above("2", 0), turned(most), plainly(most))
		}
	}
}

// TestFmaNought: a result of 0 goes by the product's sign and c's.
func TestFmaNought(t *testing.T) {
	for _, l := range wordLayouts {
		for _, mode := range allModes {
			for _, signs := range tuples([]impl.Num{above("0", 0), finite(true, "0", 0)}, 3) {
				a, b, c := signs[0].Neg, signs[1].Neg, signs[2].Neg
				neg := mode == impl.RmFloor
				if (a != b) == c {
					neg = c
				}
				for _, factors := range [][2]string{{"0", "0"}, {"0", "7"}, {"7", "0"}} {
					for _, exps := range [][4]int64{
						{0, 0, 0, 0}, {-3, 1, 5, -2}, {-3, 1, -5, -5}, {l.least, l.least, 0, l.least}, {0, -1, l.least, l.least},
						{l.greatest, l.greatest, l.greatest, l.greatest}, {l.greatest, 1, 3, 3}, {l.greatest, l.least, l.greatest, l.greatest + l.least},
					} {
						got := impl.Fma(l.format, mode, finite(a, factors[0], exps[0]), finite(b, factors[1], exps[1]), finite(c, "0", exps[2]))
						if want := plainly(finite(neg, "0", exps[3])); got != want {
							t.Errorf("%d, %d, %v %v %v, %v, %v: %+v, not %+v", l.format, mode, a, b, c, factors, exps, got, want)
						}
					}
				}
			}
		}
	}
}

// TestFmaToZero: a product and a c that are no noughts and together 0.
func TestFmaToZero(t *testing.T) {
	for _, l := range wordLayouts {
		for _, mode := range allModes {
			for _, c := range []struct {
				a, b, c impl.Num
				exp     int64
			}{
				{above("25", -1), above("25", -1), finite(true, "625", -2), -2},
				{above("25", -1), above("4", -1), finite(true, "1", 0), -2},
				{above("25", 1), above("4", 1), finite(true, "10000", 0), 0},
				{above("1", l.least), above("10", -1), finite(true, "1", l.least), l.least},
				{above(nines(l.digits), l.greatest), above("1", 0), finite(true, nines(l.digits), l.greatest), l.greatest},
				{above("5", l.greatest), above("2", 1), finite(true, "100", l.greatest), l.greatest},
			} {
				want := plainly(finite(mode == impl.RmFloor, "0", c.exp))
				checkFma(t, l.format, mode, c.a, c.b, c.c, want)
				checkFma(t, l.format, mode, turned(c.a), c.b, turned(c.c), want)
			}
		}
	}
}

func TestScale(t *testing.T) {
	for _, l := range wordLayouts {
		p, wide := l.digits, p64(l)
		one := tenPowerText(p - 1)
		for _, c := range []struct {
			a     impl.Num
			n     int64
			want  modeDigits
			exp   int64
			flags int64
		}{
			{above("7", 0), 0, sameDigits("7"), 0, 0},
			{above("7", 0), 5, sameDigits("7"), 5, 0},
			{above("7", 3), -5, sameDigits("7"), -2, 0},
			{above("700", 0), 1, sameDigits("700"), 1, 0},
			{above(head(p), -9), 9, sameDigits(head(p)), 0, 0},
			{above("7", l.least), l.greatest - l.least, sameDigits("7"), l.greatest, 0},
			{above("7", l.greatest), l.least - l.greatest, sameDigits("7"), l.least, 0},
			// Above the greatest Exp noughts come, while there is room.
			{above("7", l.greatest), 1, sameDigits("70"), l.greatest, 0},
			{above("7", 0), l.greatest + wide - 1, sameDigits("7" + noughts(p-1)), l.greatest, 0},
			{above(head(p-1), l.greatest), 1, sameDigits(head(p-1) + "0"), l.greatest, 0},
			{above(nines(p), l.greatest), 0, sameDigits(nines(p)), l.greatest, 0},
			// Below the least Exp digits go.
			{above("70", l.least), -1, sameDigits("7"), l.least, 0},
			{above("700", l.least+1), -2, sameDigits("70"), l.least, 0},
			{above("75", l.least), -1, modeDigits{"8", "7", "7", "8", "8"}, l.least, under},
			{above("85", l.least), -1, modeDigits{"8", "8", "8", "9", "9"}, l.least, under},
			{above(nines(p), l.least), -1, modeDigits{one, nines(p - 1), nines(p - 1), one, one}, l.least, under},
			{above("5", l.least), -1, modeDigits{"0", "0", "0", "1", "1"}, l.least, under},
			{above("6", l.least), -1, modeDigits{"1", "0", "0", "1", "1"}, l.least, under},
			{above("4", l.least), -1, modeDigits{"0", "0", "0", "1", "0"}, l.least, under},
			{above(nines(p), l.least), -wide - 1, modeDigits{"0", "0", "0", "1", "0"}, l.least, under},
			{above("1", l.least), -20000, modeDigits{"0", "0", "0", "1", "0"}, l.least, under},
			{above(nines(p), 0), -20000, modeDigits{"0", "0", "0", "1", "0"}, l.least, under},
			{above("1", l.greatest), -20000, modeDigits{"0", "0", "0", "1", "0"}, l.least, under},
			// A nought has Exp and n together, kept within the bounds.
			{above("0", 0), 0, sameDigits("0"), 0, 0},
			{above("0", 3), -7, sameDigits("0"), -4, 0},
			{above("0", 0), 20000, sameDigits("0"), l.greatest, 0},
			{above("0", 0), -20000, sameDigits("0"), l.least, 0},
			{above("0", l.greatest), 1, sameDigits("0"), l.greatest, 0},
			{above("0", l.least), -1, sameDigits("0"), l.least, 0},
			{above("0", l.least), 20000, sameDigits("0"), l.greatest, 0},
		} {
			for i, mode := range allModes {
				want := impl.Result{Num: above(c.want[i], c.exp), Flags: c.flags}
				checkScale(t, l.format, mode, c.a, c.n, want)
			}
		}
	}
}

func sameDigits(digits string) modeDigits {
	return modeDigits{digits, digits, digits, digits, digits}
}

// checkScale takes in the same below 0.
func checkScale(t *testing.T, format, mode int64, a impl.Num, n int64, want impl.Result) {
	t.Helper()
	if got := impl.Scale(format, mode, a, n); got != want {
		t.Errorf("Scale(%d, %d, %+v, %d) = %+v, not %+v", format, mode, a, n, got, want)
	}
	a, mode, want.Num = turned(a), otherWay(mode), turned(want.Num)
	if got := impl.Scale(format, mode, a, n); got != want {
		t.Errorf("Scale(%d, %d, %+v, %d) = %+v, not %+v", format, mode, a, n, got, want)
	}
}

func TestScaleOver(t *testing.T) {
	for _, l := range wordLayouts {
		p, wide := l.digits, p64(l)
		for _, c := range []struct {
			a impl.Num
			n int64
		}{
			{above(nines(p), l.greatest), 1}, {above("1", l.greatest), wide}, {above("1", 0), l.greatest + wide},
			{above("1", l.greatest), 20000}, {above("1", 0), 20000}, {above(nines(p), l.least), 20000}, {above("12", l.greatest), wide - 1},
		} {
			for _, mode := range allModes {
				want := impl.Result{Num: infinity(false), Flags: over}
				if mode == impl.RmZero || mode == impl.RmFloor {
					want.Num = above(nines(p), l.greatest)
				}
				checkScale(t, l.format, mode, c.a, c.n, want)
			}
		}
	}
}
