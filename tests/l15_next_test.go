package tests

import (
	"testing"

	"loop.example/g00085/impl"
)

// checkNext asks NextUp, and NextDown of the same turned round.
func checkNext(t *testing.T, format int64, a, want impl.Num) {
	t.Helper()
	if got := impl.NextUp(format, a); got != plainly(want) {
		t.Errorf("NextUp(%d, %+v) = %+v, not %+v", format, a, got, want)
	}
	if got := impl.NextDown(format, turned(a)); got != plainly(turned(want)) {
		t.Errorf("NextDown(%d, %+v) = %+v, not %+v", format, turned(a), got, turned(want))
	}
}

// nextCase is a number and the next one.
type nextCase struct {
	a, want impl.Num
}

func checkNextCases(t *testing.T, l wordLayout, cases []nextCase) {
	t.Helper()
	for _, c := range cases {
		checkNext(t, l.format, c.a, c.want)
	}
}

func TestNextOfNoughts(t *testing.T) {
	for _, l := range wordLayouts {
		for _, exp := range someExps(l) {
			for _, neg := range bothSigns {
				checkNext(t, l.format, finite(neg, "0", exp), above("1", l.least))
			}
		}
	}
}

func TestNextAtTheEnds(t *testing.T) {
	for _, l := range wordLayouts {
		p := l.digits
		checkNextCases(t, l, []nextCase{
			{above(nines(p), l.greatest), infinity(false)},
			{infinity(false), infinity(false)},
			{infinity(true), below(nines(p), l.greatest)},
			{below(nines(p), l.greatest), below(nines(p-1)+"8", l.greatest)},
			{above(nines(p-1)+"8", l.greatest), above(nines(p), l.greatest)},
			{below("1", l.least), below("0", l.least)},
		})
	}
}

// TestNextAbove goes away from 0.
func TestNextAbove(t *testing.T) {
	for _, l := range wordLayouts {
		p, wide := l.digits, p64(l)
		full := tenPowerText(p - 1)
		one := bumped(full)
		checkNextCases(t, l, []nextCase{
			// Few digits are told by all.
			{above("1", 0), above(one, 1-wide)},
			{above("10", 0), above(one, 2-wide)},
			{above("1000", -3), above(one, 1-wide)},
			{above("7", 3), above("7"+noughts(p-2)+"1", 4-wide)},
			{above("25", -2), above("25"+noughts(p-3)+"1", -wide)},
			{above("9", 0), above("9"+noughts(p-2)+"1", 1-wide)},
			{above(nines(p-1), 0), above(nines(p-1)+"1", -1)},
			{above("1", l.greatest), above(one, l.greatest+1-wide)},
			{above("9", l.greatest), above("9"+noughts(p-2)+"1", l.greatest+1-wide)},
			// All digits.
			{above(full, 0), above(one, 0)},
			{above(head(p), 7), above(bumped(head(p)), 7)},
			{above("4"+nines(p-1), -5), above("5"+noughts(p-1), -5)},
			{above(nines(p-1)+"8", 0), above(nines(p), 0)},
			// All nines lead to a power of ten, which the next Exp alone can tell.
			{above(nines(p), 0), above(full, 1)},
			{above(nines(p), l.least), above(full, l.least+1)},
			{above(nines(p), -wide), above(full, 1-wide)},
			{above(nines(p), l.greatest-1), above(full, l.greatest)},
			// With the Exp least, and where the digits do not all fit above it.
			{above("1", l.least), above("2", l.least)},
			{above("9", l.least), above("10", l.least)},
			{above("99", l.least), above("100", l.least)},
			{above(nines(p-1), l.least), above(full, l.least)},
			{above(full, l.least), above(one, l.least)},
			{above("1", l.least+1), above("11", l.least)},
			{above("7", l.least+3), above("7001", l.least)},
			{above("1", l.least+wide-2), above("1"+noughts(p-3)+"1", l.least)},
			{above("1", l.least+wide-1), above(one, l.least)},
			{above("1", l.least+wide), above(one, l.least+1)},
			{above("99", l.least+wide-2), above("99"+noughts(p-3)+"1", l.least)},
			{above("99", l.least+wide-1), above("99"+noughts(p-3)+"1", l.least+1)},
		})
	}
}

// TestNextBelow comes nearer to 0.
func TestNextBelow(t *testing.T) {
	for _, l := range wordLayouts {
		p, wide := l.digits, p64(l)
		full := tenPowerText(p - 1)
		one := bumped(full)
		checkNextCases(t, l, []nextCase{
			// A power of ten leads to all nines, with an Exp that is one less.
			{below("1", 0), below(nines(p), -wide)},
			{below("10", 0), below(nines(p), 1-wide)},
			{below("1000", -3), below(nines(p), -wide)},
			{below(full, 0), below(nines(p), -1)},
			{below(full, 1-wide), below(nines(p), -wide)},
			{below("1", l.greatest), below(nines(p), l.greatest-wide)},
			{below(full, l.greatest), below(nines(p), l.greatest-1)},
			{below(full, l.least+1), below(nines(p), l.least)},
			{below("1", l.least+wide), below(nines(p), l.least)},
			// But not where there is no lesser Exp.
			{below(full, l.least), below(nines(p-1), l.least)},
			{below("1", l.least+wide-1), below(nines(p-1), l.least)},
			{below("1", l.least+1), below("9", l.least)},
			{below("10", l.least), below("9", l.least)},
			{below("1", l.least+2), below("99", l.least)},
			// Few digits are told by all.
			{below("7", 3), below("6"+nines(p-1), 4-wide)},
			{below("25", -2), below("24"+nines(p-2), -wide)},
			{below("11", 0), below("10"+nines(p-2), 2-wide)},
			{below("90", 0), below("8"+nines(p-1), 2-wide)},
			{below(nines(p-1), 0), below(nines(p-2)+"89", -1)},
			{below("2", l.greatest), below("1"+nines(p-1), l.greatest+1-wide)},
			// All digits.
			{below(one, 0), below(full, 0)},
			{below(one, l.least), below(full, l.least)},
			{below(bumped(head(p)), 7), below(head(p), 7)},
			{below("5"+noughts(p-1), -5), below("4"+nines(p-1), -5)},
			{below(nines(p), 0), below(nines(p-1)+"8", 0)},
			// With the Exp least.
			{below("2", l.least), below("1", l.least)},
			{below("7", l.least), below("6", l.least)},
			{below("11", l.least), below("10", l.least)},
			{below("7", l.least+3), below("6999", l.least)},
			{below(nines(p-1), l.least), below(nines(p-2)+"8", l.least)},
		})
	}
}

// TestNextAtPowers: each power of ten of the format, however it is told, from
// both sides.
func TestNextAtPowers(t *testing.T) {
	for _, l := range wordLayouts {
		p, wide := l.digits, p64(l)
		for place := l.least; place <= l.greatest+wide-1; place++ {
			lowest := max(l.least, place+1-wide)
			up := above(bumped(tenPowerText(int(place-lowest))), lowest)
			down := below(nines(min(p, int(place-l.least))), max(l.least, place-wide))
			if place == l.least {
				down.Digits = "0"
			}
			for _, size := range []int{1, 2, p - 1, p} {
				exp := place + 1 - int64(size)
				if exp >= l.least && exp <= l.greatest {
					checkNext(t, l.format, above(tenPowerText(size-1), exp), up)
					checkNext(t, l.format, below(tenPowerText(size-1), exp), down)
				}
			}
		}
	}
}

// TestNextWalks goes step by step over 0 and over the powers of ten at which the
// steps begin to grow, there and back.
func TestNextWalks(t *testing.T) {
	for _, l := range wordLayouts {
		full := tenPowerText(l.digits - 1)
		for _, start := range []impl.Num{
			below("130", l.least), below(bumped(full), l.least), above(nines(l.digits-1), l.least), below(bumped(full), l.least+1),
			above(nines(l.digits-1)+"0", l.least), above(nines(l.digits-1)+"0", -3), below("1"+noughts(l.digits-2)+"9", -3),
		} {
			path := []impl.Num{start}
			for range 260 {
				a := path[len(path)-1]
				want := nextAnew(t, l, a)
				checkNext(t, l.format, a, want)
				path = append(path, want)
			}
			for i := len(path) - 1; i > 0; i-- {
				got := impl.NextDown(l.format, path[i])
				if got.Flags != 0 || compareNums(t, got.Num, path[i-1]) != 0 {
					t.Fatalf("NextDown(%d, %+v) = %+v, not %+v", l.format, path[i], got, path[i-1])
				}
			}
		}
	}
}

// TestNextDown says of some numbers themselves what the others say by turning
// them round.
func TestNextDown(t *testing.T) {
	for _, l := range wordLayouts {
		p, wide := l.digits, p64(l)
		for _, c := range []nextCase{
			{above("1", 0), above(nines(p), -wide)},
			{below("1", 0), below(bumped(tenPowerText(p-1)), 1-wide)},
			{above("0", 0), below("1", l.least)},
			{below("0", 3), below("1", l.least)},
			{above("1", l.least), above("0", l.least)},
			{infinity(false), above(nines(p), l.greatest)},
			{infinity(true), infinity(true)},
			{below(nines(p), l.greatest), infinity(true)},
		} {
			if got := impl.NextDown(l.format, c.a); got != plainly(c.want) {
				t.Errorf("NextDown(%d, %+v) = %+v, not %+v", l.format, c.a, got, c.want)
			}
		}
	}
}
