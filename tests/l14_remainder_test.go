package tests

import (
	"testing"

	"loop.example/g00085/impl"
)

// checkRemainder takes two numbers that are not below 0 with each pair of signs:
// b's matters never, a's turns the result's.
func checkRemainder(t *testing.T, l wordLayout, a, b, want impl.Num) {
	t.Helper()
	for _, other := range []impl.Num{b, turned(b)} {
		if got := impl.Remainder(l.format, a, other); got != plainly(want) {
			t.Errorf("Remainder(%d, %+v, %+v) = %+v, not %+v", l.format, a, other, got, want)
		}
		if got := impl.Remainder(l.format, turned(a), other); got != plainly(turned(want)) {
			t.Errorf("Remainder(%d, %+v, %+v) = %+v, not %+v", l.format, turned(a), other, got, turned(want))
		}
	}
}

func below(digits string, exp int64) impl.Num {
	return finite(true, digits, exp)
}

func TestRemainder(t *testing.T) {
	for _, l := range wordLayouts {
		p, wide := l.digits, p64(l)
		for _, c := range []sumCase{
			{above("10", 0), above("3", 0), above("1", 0)},
			{above("11", 0), above("3", 0), below("1", 0)},
			{above("1", 0), above("3", 0), above("1", 0)},
			{above("2", 0), above("3", 0), below("1", 0)},
			{above("7", 0), above("10", 0), below("3", 0)},
			{above("4", 0), above("10", 0), above("4", 0)},
			// A half exactly: the even n, from both sides.
			{above("1", 0), above("2", 0), above("1", 0)},
			{above("3", 0), above("2", 0), below("1", 0)},
			{above("5", 0), above("2", 0), above("1", 0)},
			{above("7", 0), above("2", 0), below("1", 0)},
			{above("5", 0), above("10", 0), above("5", 0)},
			{above("15", 0), above("10", 0), below("5", 0)},
			{above("25", 0), above("10", 0), above("5", 0)},
			{above("5", -1), above("1", 0), above("5", -1)},
			{above("15", -1), above("1", 0), below("5", -1)},
			{above("149", -2), above("1", 0), above("49", -2)},
			{above("151", -2), above("1", 0), below("49", -2)},
			{above("49", -2), above("1", 0), above("49", -2)},
			{above("51", -2), above("1", 0), below("49", -2)},
			{above("250", -2), above("1", 0), above("50", -2)},
			// The lesser Exp of the two.
			{above("1", 1), above("3", 0), above("1", 0)},
			{above("10", 0), above("3", -2), above("1", -2)},
			{above("1", 2), above("6", -3), below("2", -3)},
			{above("7", 0), above("1", 1), below("3", 0)},
			{above("7", -3), above("1", 5), above("7", -3)},
			{above(nines(p), -3), above("1", 120), above(nines(p), -3)},
			{above("17", l.least), above("5", l.least), above("2", l.least)},
			{above("17", l.greatest), above("5", l.greatest), above("2", l.greatest)},
			// A result of 0 has a's sign.
			{above("6", 0), above("3", 0), above("0", 0)},
			{above("6", 3), above("3", -2), above("0", -2)},
			{above("6", -3), above("3", -2), above("6", -3)},
			{above("60", -3), above("3", -2), above("0", -3)},
			{above(nines(p), 9), above(nines(p), 9), above("0", 9)},
			{above(nines(p), 0), above("1", 0), above("0", 0)},
			{above("0", 0), above("3", 0), above("0", 0)},
			{above("0", 5), above("3", -2), above("0", -2)},
			{above("0", -5), above("3", 2), above("0", -5)},
			{above("0", l.least), above("1", l.least), above("0", l.least)},
			// As many digits as the format has.
			{above(nines(p), 0), above(nines(p), 1), above(nines(p), 0)},
			{above("4"+nines(p-1), 0), above(nines(p), 0), above("4"+nines(p-1), 0)},
			{above("5"+noughts(p-1), 0), above(nines(p), 0), below("4"+nines(p-1), 0)},
			{above("5"+noughts(p-1), 0), above("1", wide), above("5"+noughts(p-1), 0)},
			{above("5"+noughts(p-2)+"1", 0), above("1", wide), below("4"+nines(p-1), 0)},
			{above("15"+noughts(p-2), 0), above("1", wide-1), below("5"+noughts(p-2), 0)},
			{above(nines(p), 0), above("1"+noughts(p-2)+"2", 1), below("21", 0)},
		} {
			checkRemainder(t, l, c.a, c.b, c.want)
		}
	}
}

// TestRemainderApart: Exps that differ by as much as is let in, and by one more.
func TestRemainderApart(t *testing.T) {
	for _, l := range wordLayouts {
		p := l.digits
		for _, low := range []int64{l.least, -200, -80, 0, l.greatest - 161} {
			// By 7 10 to the 160 leaves what 10 to the 4 does: 4. So does, less 1,
			// the number of nines of either format.
			checkRemainder(t, l, above("1", low+160), above("3", low), above("1", low))
			checkRemainder(t, l, above("1", low+160), above("7", low), below("3", low))
			checkRemainder(t, l, above(nines(p), low+160), above("7", low), below("2", low))
			checkRemainder(t, l, above("3", low), above("1", low+160), above("3", low))
			checkRemainder(t, l, above(nines(p), low), above(nines(p), low+160), above(nines(p), low))
			checkRemainder(t, l, above("0", low+160), above("3", low), above("0", low))
			checkRemainder(t, l, above("0", low), above("3", low+160), above("0", low))
			for _, digits := range []string{"0", "1", nines(p)} {
				for _, other := range []string{"1", "3", nines(p)} {
					for _, neg := range bothSigns {
						near, far := finite(neg, digits, low), finite(neg, digits, low+161)
						for _, nums := range [][]impl.Num{{far, above(other, low)}, {near, above(other, low+161)}} {
							if got := impl.Remainder(l.format, nums[0], nums[1]); got != notValid {
								t.Errorf("Remainder(%d, %+v) = %+v", l.format, nums, got)
							}
						}
					}
				}
			}
		}
		for _, nums := range [][]impl.Num{
			{above("1", l.greatest), above("1", l.least)}, {above("1", l.least), above("1", l.greatest)}, {above("0", l.least), above("1", l.greatest)},
		} {
			if got := impl.Remainder(l.format, nums[0], nums[1]); got != notValid {
				t.Errorf("Remainder(%d, %+v) = %+v", l.format, nums, got)
			}
		}
	}
}
