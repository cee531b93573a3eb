package tests

import (
	"math/big"
	"testing"

	"loop.example/g00085/impl"
)

func checkRoot(t *testing.T, format, mode int64, a impl.Num, want impl.Result) {
	t.Helper()
	if got := impl.Sqrt(format, mode, a); got != want {
		t.Errorf("Sqrt(%d, %d, %+v) = %+v, not %+v", format, mode, a, got, want)
	}
}

// TestSqrtNoughts: the sign stays, and half the Exp is rounded down below 0, too.
func TestSqrtNoughts(t *testing.T) {
	for _, l := range wordLayouts {
		for _, c := range [][2]int64{
			{0, 0}, {1, 0}, {2, 1}, {3, 1}, {4, 2}, {5, 2}, {-1, -1}, {-2, -1}, {-3, -2}, {-4, -2}, {-5, -3}, {-6, -3},
			{l.least, l.least / 2}, {l.least + 1, l.least / 2}, {l.least + 2, l.least/2 + 1},
			{l.greatest, (l.greatest - 1) / 2}, {l.greatest - 1, (l.greatest - 1) / 2}, {l.greatest - 2, (l.greatest - 3) / 2},
		} {
			for _, neg := range bothSigns {
				for _, mode := range allModes {
					checkRoot(t, l.format, mode, finite(neg, "0", c[0]), plainly(finite(neg, "0", c[1])))
				}
			}
		}
	}
}

// squareText is the square of a natural.
func squareText(t *testing.T, root string) string {
	t.Helper()
	number := bigNatural(t, root)
	return number.Mul(number, number).String()
}

func TestSqrtExact(t *testing.T) {
	for _, l := range wordLayouts {
		half := l.digits / 2
		low, high := l.least/2, (l.greatest-1)/2
		for _, c := range [][2]impl.Num{
			{above("1", 0), above("1", 0)},
			{above("4", 0), above("2", 0)},
			{above("225", -2), above("15", -1)},
			{above("100", 0), above("10", 0)},
			{above("1", 2), above("1", 1)},
			{above("1", -2), above("1", -1)},
			{above("10000", -4), above("100", -2)},
			{above("49", -100), above("7", -50)},
			{above("49", 200), above("7", 100)},
			// An odd Exp has to be told by a nought, and half of it is rounded down.
			{above("10", 1), above("10", 0)},
			{above("40", 1), above("20", 0)},
			{above("40", 3), above("20", 1)},
			{above("40", -1), above("20", -1)},
			{above("160", -3), above("40", -2)},
			{above("160", 7), above("40", 3)},
			{above("2250", -1), above("150", -1)},
			{above("4000", 1), above("200", 0)},
			// The preferred Exp leaves a fraction that has to be told.
			{above("25", -2), above("5", -1)},
			{above("250000", -4), above("500", -2)},
			// As many digits as let the root fit.
			{above(squareText(t, nines(half)), 0), above(nines(half), 0)},
			{above(squareText(t, nines(half)), -6), above(nines(half), -3)},
			{above(squareText(t, nines(half-1)+"7"), 8), above(nines(half-1)+"7", 4)},
			{above(squareText(t, nines(half-1))+"0", 1), above(nines(half-1)+"0", 0)},
			{above(squareText(t, nines(half-1))+"0", -7), above(nines(half-1)+"0", -4)},
			{above(squareText(t, "3"+noughts(half-2)+"1"), 2), above("3"+noughts(half-2)+"1", 1)},
			{above(tenPowerText(l.digits-2), 0), above(tenPowerText(half-1), 0)},
			{above(tenPowerText(l.digits-1), 1), above(tenPowerText(half), 0)},
			// At the format's bounds.
			{above("1", l.least), above("1", low)},
			{above("10", l.least+1), above("10", low)},
			{above("25", l.least), above("5", low)},
			{above("1", l.greatest-1), above("1", high)},
			{above("10", l.greatest), above("10", high)},
			{above(squareText(t, nines(half)), l.least), above(nines(half), low)},
			{above(squareText(t, nines(half-1))+"0", l.greatest), above(nines(half-1)+"0", high)},
		} {
			for _, mode := range allModes {
				checkRoot(t, l.format, mode, c[0], plainly(c[1]))
			}
		}
	}
}

// TestSqrtDoesNotEnd: by digits that are known, and by those that lie next to a
// half or to a unit.
func TestSqrtDoesNotEnd(t *testing.T) {
	two := "14142135623730950488016887242096980785696718753769"
	ten := "31622776601683793319988935444327185337195551393252"
	for _, l := range wordLayouts {
		p, wide := l.digits, p64(l)
		half := p / 2
		for _, c := range []struct {
			a    impl.Num
			want modeDigits
			exp  int64
		}{
			{above("2", 0), cutAt(two, p), 1 - wide},
			{above("2", 2), cutAt(two, p), 2 - wide},
			{above("2", -6), cutAt(two, p), -2 - wide},
			{above("200", -2), cutAt(two, p), 1 - wide},
			{above("20", 1), cutAt(two, p), 2 - wide},
			{above("20", -1), cutAt(two, p), 1 - wide},
			{above("10", 0), cutAt(ten, p), 1 - wide},
			{above("1", 1), cutAt(ten, p), 1 - wide},
			{above("1", -1), cutAt(ten, p), -wide},
			{above("100", -3), cutAt(ten, p), -wide},
			{above("1", l.greatest), cutAt(ten, p), (l.greatest-1)/2 + 1 - wide},
			{above("1", l.least+1), cutAt(ten, p), l.least/2 + 1 - wide},
			{above("2", l.least), cutAt(two, p), l.least/2 + 1 - wide},
			{above("2", l.greatest-1), cutAt(two, p), (l.greatest-1)/2 + 1 - wide},
			// N N + 1 has a half and a little more behind, N N - 1 a little less.
			{above(oneUp(squareText(t, nines(half-1)+"8")), 0), upFrom(nines(half-1) + "8" + noughts(half)), int64(-half)},
			{above(lessOne(t, squareText(t, nines(half))), 0), downFrom(nines(half-1) + "8" + nines(half)), int64(-half)},
			// That of 10 to the (p - 2) and 1 has four units and nines behind.
			{above("1"+noughts(p-3)+"1", 0), upFrom("1" + noughts(p-2) + "4"), int64(-half)},
		} {
			for i, mode := range allModes {
				checkRoot(t, l.format, mode, c.a, impl.Result{Num: above(c.want[i], c.exp), Flags: inexact})
			}
		}
	}
}

func lessOne(t *testing.T, digits string) string {
	t.Helper()
	number := bigNatural(t, digits)
	return number.Sub(number, big.NewInt(1)).String()
}

// TestSqrtCarries: all nines lie so near below a power of ten that it comes
// where they are rounded upward.
func TestSqrtCarries(t *testing.T) {
	for _, l := range wordLayouts {
		p := l.digits
		half := int64(p / 2)
		for _, mode := range allModes {
			want := impl.Result{Num: above(nines(p), -half), Flags: inexact}
			if mode == impl.RmCeil {
				want.Num = above(tenPowerText(p-1), 1-half)
			}
			checkRoot(t, l.format, mode, above(nines(p), 0), want)
		}
	}
}

// automorph is a natural n of just so many digits with n (n - 1) divisible by
// 10 to the size: n - 1/2 squared is a quarter more than that product.
func automorph(t *testing.T, size int) string {
	t.Helper()
	twos, fives := bigNatural(t, powerText(2, int64(size))), bigNatural(t, powerText(5, int64(size)))
	// 1 modulo a power of two and 0 modulo one of five, or the other way round.
	for _, pair := range [][2]*big.Int{{twos, fives}, {fives, twos}} {
		inverse := new(big.Int).ModInverse(pair[1], pair[0])
		n := inverse.Mul(inverse, pair[1])
		if text := n.Mod(n, tenTo(size)).String(); len(text) == size {
			return text
		}
	}
	t.Fatalf("there is none of %d digits", size)
	return ""
}

// TestSqrtNextToHalf: the nearest that a root comes to a half. Of n (n - 1) it
// is n - 1/2, less about one part in 8 n.
func TestSqrtNextToHalf(t *testing.T) {
	for _, l := range wordLayouts {
		p, wide := l.digits, p64(l)
		n := automorph(t, p)
		product := new(big.Int).Mul(bigNatural(t, n), bigNatural(t, lessOne(t, n))).String()
		if product[len(product)-p:] != noughts(p) {
			t.Fatalf("%s is none", n)
		}
		a := above(product[:len(product)-p], wide)
		t.Logf("the root of %s lies next to a half behind %s", a.Digits, lessOne(t, n))
		want := downFrom(lessOne(t, n))
		for i, mode := range allModes {
			checkRoot(t, l.format, mode, a, impl.Result{Num: above(want[i], 0), Flags: inexact})
		}
	}
}

// TestSqrtEnds: of the greatest and the least numbers.
func TestSqrtEnds(t *testing.T) {
	for _, l := range wordLayouts {
		p := l.digits
		for _, a := range []impl.Num{
			above(nines(p), l.greatest), above(nines(p-1)+"8", l.greatest), above(nines(p), l.greatest-1), above(tenPowerText(p-1), l.greatest),
			above("1", l.greatest), above("1", l.least), above("2", l.least), above("3", l.least+1), above("9", l.least+1), above(nines(p), l.least),
		} {
			for _, mode := range allModes {
				got := impl.Sqrt(l.format, mode, a)
				if want := rootedAnew(t, l, mode, a); got != want || !impl.NumOk(l.format, got.Num) || got.Flags&^inexact != 0 {
					t.Errorf("Sqrt(%d, %d, %+v) = %+v, not %+v", l.format, mode, a, got, want)
				}
			}
		}
	}
}
