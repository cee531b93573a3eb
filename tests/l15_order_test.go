package tests

import (
	"slices"
	"testing"

	"loop.example/g00085/impl"
)

// checkCompared asks both ways and with both signs turned.
func checkCompared(t *testing.T, format int64, a, b impl.Num, want int64) {
	t.Helper()
	for _, c := range []struct {
		a, b impl.Num
		want int64
	}{{a, b, want}, {b, a, -want}, {turned(a), turned(b), -want}, {turned(b), turned(a), want}} {
		if got := impl.Compare(format, c.a, c.b); got != c.want {
			t.Errorf("Compare(%d, %+v, %+v) = %d, not %d", format, c.a, c.b, got, c.want)
		}
	}
}

func TestCompareNoughts(t *testing.T) {
	for _, l := range wordLayouts {
		for _, one := range someExps(l) {
			for _, other := range someExps(l) {
				checkCompared(t, l.format, above("0", one), above("0", other), 0)
				checkCompared(t, l.format, above("0", one), below("0", other), 0)
			}
		}
	}
}

// TestCompareWithNought: no Exp of a nought leads past a number.
func TestCompareWithNought(t *testing.T) {
	for _, l := range wordLayouts {
		for _, exp := range someExps(l) {
			for _, digits := range []string{"1", "10", nines(l.digits)} {
				for _, other := range someExps(l) {
					for _, neg := range bothSigns {
						checkCompared(t, l.format, above(digits, exp), finite(neg, "0", other), 1)
					}
				}
			}
		}
	}
}

func TestCompareInfinities(t *testing.T) {
	for _, l := range wordLayouts {
		checkCompared(t, l.format, infinity(false), infinity(false), 0)
		checkCompared(t, l.format, infinity(false), infinity(true), 1)
		for _, n := range finiteNums(l) {
			checkCompared(t, l.format, infinity(false), n, 1)
			checkCompared(t, l.format, infinity(true), n, -1)
		}
	}
}

// TestCompareSigns: of unlike ones they alone tell.
func TestCompareSigns(t *testing.T) {
	for _, l := range wordLayouts {
		for _, one := range someExps(l) {
			for _, other := range someExps(l) {
				for _, digits := range []string{"1", "7", "10", head(l.digits), nines(l.digits)} {
					checkCompared(t, l.format, above(digits, one), below("7", other), 1)
					checkCompared(t, l.format, above(digits, one), below(nines(l.digits), other), 1)
				}
			}
		}
	}
}

func TestCompareFinite(t *testing.T) {
	for _, l := range wordLayouts {
		p, wide := l.digits, p64(l)
		full := tenPowerText(p - 1)
		for _, c := range []struct {
			a, b impl.Num
			want int64
		}{
			// One Exp.
			{above("1", 0), above("1", 0), 0},
			{above("1", 0), above("2", 0), -1},
			{above("9", 3), above("10", 3), -1},
			{above("99", -3), above("100", -3), -1},
			{above("19", 0), above("21", 0), -1},
			{above(head(p), 5), above(head(p), 5), 0},
			{above(head(p), 5), above(bumped(head(p)), 5), -1},
			{above(nines(p), l.greatest), above(nines(p-1)+"8", l.greatest), 1},
			{above("1", l.least), above("2", l.least), -1},
			// One value, told by other digits.
			{above("1", 0), above("10", -1), 0},
			{above("1", 1), above("10", 0), 0},
			{above("120", 4), above("12", 5), 0},
			{above("1", 0), above(full, 1-wide), 0},
			{above("1", l.greatest), above(full, l.greatest+1-wide), 0},
			{above("1", l.least+wide-1), above(full, l.least), 0},
			{above("7000", -2), above("70", 0), 0},
			// One more in the last place, told by other Exps.
			{above("1", 0), above("11", -1), -1},
			{above("1", 0), above("9", -1), 1},
			{above("1", 0), above("99", -2), 1},
			{above("1", 0), above("101", -2), -1},
			{above("12", 1), above("121", 0), -1},
			{above("12", 1), above("119", 0), 1},
			{above("1", 0), above(full[:p-1]+"1", 1-wide), -1},
			{above("1", 0), above(nines(p), -wide), 1},
			{above("10", 0), above(nines(p), 1-wide), 1},
			{above("1", l.least+wide), above(nines(p), l.least), 1},
			{above("1", l.greatest), above(nines(p), l.greatest-wide), 1},
			// More digits, but less; fewer, but more.
			{above("2", 1), above("12", 0), 1},
			{above("9", 0), above("12345", -4), 1},
			{above("12345", -4), above("2", 0), -1},
			{above(nines(p), 0), above("1", wide), -1},
			{above(nines(p), 0), above("1", wide-1), 1},
			// A lesser Exp, but more.
			{above("1234", 0), above("1", 3), 1},
			{above("999", 0), above("1", 3), -1},
			// As far apart as the format lets stand.
			{above("1", l.least), above("1", l.greatest), -1},
			{above(nines(p), l.least), above("1", l.greatest), -1},
			{above("1", l.least), above(nines(p), l.greatest), -1},
			{above("2", l.least), above("1", 0), -1},
			{above("1", l.greatest), above("9", 0), 1},
		} {
			checkCompared(t, l.format, c.a, c.b, c.want)
		}
	}
}

// ladder goes from what Total puts ahead of all to what it puts behind all. What
// stands in one row is of one value.
func ladder(l wordLayout) [][]impl.Num {
	p, wide := l.digits, p64(l)
	full := tenPowerText(p - 1)
	upper := [][]impl.Num{
		{above("0", l.least), above("0", l.least+1), above("0", -1), above("0", 0), above("0", 1), above("0", l.greatest-1), above("0", l.greatest)},
		{above("1", l.least)},
		{above("9", l.least)},
		{above("10", l.least), above("1", l.least+1)},
		{above("11", l.least)},
		{above(nines(p), l.least)},
		{above(full, l.least+1), above("1", l.least+wide)},
		{above("5", -3)},
		{above(nines(p), -wide)},
		{above(full, 1-wide), above("1000", -3), above("10", -1), above("1", 0)},
		{above("1"+noughts(p-2)+"1", 1-wide)},
		{above("11", -1)},
		{above("99", -1)},
		{above("100", -1), above("10", 0), above("1", 1)},
		{above("12300", 0), above("1230", 1), above("123", 2)},
		{above("124", 2)},
		{above("1"+noughts(p-1), l.greatest+1-wide), above("10", l.greatest-1), above("1", l.greatest)},
		{above(nines(p-1)+"8", l.greatest)},
		{above(nines(p), l.greatest)},
		{infinity(false)},
	}
	rows := [][]impl.Num{}
	for _, row := range slices.Backward(upper) {
		opposite := []impl.Num{}
		for _, n := range slices.Backward(row) {
			opposite = append(opposite, turned(n))
		}
		rows = append(rows, opposite)
	}
	return append(append(rows, upper...), []impl.Num{signalNan}, []impl.Num{quietNan})
}

func TestTotalLadder(t *testing.T) {
	for _, l := range wordLayouts {
		all := slices.Concat(ladder(l)...)
		for i, a := range all {
			for j, b := range all {
				want := int64(1)
				if i < j {
					want = -1
				} else if i == j {
					want = 0
				}
				if got := impl.Total(l.format, a, b); got != want {
					t.Errorf("Total(%d, %+v, %+v) = %d, not %d", l.format, a, b, got, want)
				}
			}
		}
	}
}

// TestCompareLadder: those of one row are alike, and so are noughts of both
// signs.
func TestCompareLadder(t *testing.T) {
	for _, l := range wordLayouts {
		rows := ladder(l)
		rows = rows[:len(rows)-2]
		for i, ones := range rows {
			for j, others := range rows {
				want := int64(1)
				if i < j {
					want = -1
				} else if i == j {
					want = 0
				}
				if ones[0].Digits == "0" && others[0].Digits == "0" {
					want = 0
				}
				for _, a := range ones {
					for _, b := range others {
						if got := impl.Compare(l.format, a, b); got != want {
							t.Errorf("Compare(%d, %+v, %+v) = %d, not %d", l.format, a, b, got, want)
						}
					}
				}
			}
		}
	}
}

// TestGreaterLadder: the one that stands behind the other there is the greater,
// both ways round, alike ones too.
func TestGreaterLadder(t *testing.T) {
	greater := orderOperations()["Greater"]
	for _, l := range wordLayouts {
		rows := ladder(l)
		all := slices.Concat(rows[:len(rows)-2]...)
		for i, a := range all {
			for j, b := range all {
				greater.check(t, l.format, 0, []impl.Num{a, b}, plainly(all[max(i, j)]))
			}
		}
	}
}

// TestGreaterOfAlike says of some what the ladder says of all.
func TestGreaterOfAlike(t *testing.T) {
	greater := orderOperations()["Greater"]
	for _, l := range wordLayouts {
		for _, c := range [][2]impl.Num{
			{above("0", 0), below("0", 0)},
			{above("0", l.least), below("0", l.greatest)},
			{above("0", l.greatest), below("0", l.least)},
			{above("0", 5), above("0", -5)},
			{below("0", -5), below("0", 5)},
			{above("1", 1), above("10", 0)},
			{below("10", 0), below("1", 1)},
			{above("25", 2), above("2500", 0)},
			{below("2500", 0), below("25", 2)},
			{infinity(true), infinity(true)},
			{infinity(false), infinity(false)},
		} {
			greater.check(t, l.format, 0, []impl.Num{c[0], c[1]}, plainly(c[0]))
			greater.check(t, l.format, 0, []impl.Num{c[1], c[0]}, plainly(c[0]))
		}
	}
}
