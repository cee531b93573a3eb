package tests

import (
	"math"
	"math/big"
	"runtime"
	"slices"
	"testing"
	"time"

	"loop.example/g00085/impl"
)

const mostTurns = 18

// quotient is an answer of Quotient or Mended.
type quotient struct {
	digits []int64
	left   int64
	fine   bool
}

func (q quotient) same(other quotient) bool {
	return slices.Equal(q.digits, other.digits) && q.left == other.left && q.fine == other.fine
}

func quotientOf(x, d, n int64) quotient {
	digits, left, fine := impl.Quotient(x, d, n)
	return quotient{digits, left, fine}
}

func mendedOf(turns []impl.Turn, d int64) quotient {
	digits, left, fine := impl.Mended(turns, d)
	return quotient{digits, left, fine}
}

// keptWithin asks for 9 |rest| <= a d.
func keptWithin(rest, d, a int64) bool {
	return -a*d <= 9*rest && 9*rest <= a*d
}

// checkTurns holds each turn against the one ahead of it.
func checkTurns(t *testing.T, x, d, a, n int64) []impl.Turn {
	t.Helper()
	turns, fine := impl.Divide(x, d, a, n)
	if !fine || int64(len(turns)) != n {
		t.Fatalf("Divide(%d, %d, %d, %d) = %v, %v", x, d, a, n, turns, fine)
	}
	w := x
	for i, turn := range turns {
		if turn.Digit < -a || turn.Digit > a || turn.Rest != 10*w-turn.Digit*d || !keptWithin(turn.Rest, d, a) {
			t.Fatalf("Divide(%d, %d, %d, %d), turn %d: %v behind %d", x, d, a, n, i, turn, w)
		}
		for other := -a; other <= a; other++ {
			less := max(other, -other) < max(turn.Digit, -turn.Digit) || turn.Digit < 0 && other == -turn.Digit
			if less && keptWithin(10*w-other*d, d, a) {
				t.Fatalf("Divide(%d, %d, %d, %d), turn %d: %d would do for %d", x, d, a, n, i, other, turn.Digit)
			}
		}
		w = turn.Rest
	}
	return turns
}

// checkMended: where the last Rest is the divisor itself, which a greatest
// digit of 9 lets stand, the turns are not mended; else they make the quotient.
func checkMended(t *testing.T, x, d, a, n int64, turns []impl.Turn) {
	t.Helper()
	want := quotientOf(x, d, n)
	if turns[n-1].Rest == d {
		want = quotient{}
		if a != 9 {
			t.Fatalf("Divide(%d, %d, %d, %d): %v", x, d, a, n, turns)
		}
	}
	if got := mendedOf(turns, d); !got.same(want) {
		t.Fatalf("Mended of Divide(%d, %d, %d, %d): %v, not %v", x, d, a, n, got, want)
	}
}

// someDivisors are small ones, round ones and far ones.
func someDivisors() []int64 {
	all := []int64{97, 99, 100, 101, 125, 127, 225, 512, 720, 729, 999, 1000, 1024, 4999, 65536, 99999, 1000003,
		9999999, 12345678, 33333333, 49999999, 50000000, 67108864, 88888888, 99999989, 99999999, impl.MaxPart}
	for d := int64(1); d <= 40; d++ {
		all = append(all, d)
	}
	return all
}

// someDividends go from 0 to most: all of them where they are few, else the
// ones at both ends and some between.
func someDividends(most int64) []int64 {
	all := []int64{}
	step := most/50 + 1
	for x := int64(0); x <= most; x += step {
		all = append(all, x)
	}
	for near := int64(0); near <= 3 && near <= most; near++ {
		all = append(all, near, most-near, most/2-near/2)
	}
	return all
}

func TestDivideReckoned(t *testing.T) {
	for a := int64(5); a <= 9; a++ {
		for _, d := range someDivisors() {
			for _, x := range someDividends(a * d / 9) {
				turns := checkTurns(t, x, d, a, mostTurns)
				for _, n := range []int64{0, 1, 2, 7, 17} {
					if fewer := checkTurns(t, x, d, a, n); !slices.Equal(fewer, turns[:n]) {
						t.Fatalf("Divide(%d, %d, %d, %d) = %v, not the first of %v", x, d, a, n, fewer, turns)
					}
				}
			}
		}
	}
}

// turnsOf makes turns of pairs of a digit and a rest.
func turnsOf(pairs [][2]int64) []impl.Turn {
	turns := []impl.Turn{}
	for _, pair := range pairs {
		turns = append(turns, impl.Turn{Digit: pair[0], Rest: pair[1]})
	}
	return turns
}

func TestDivide(t *testing.T) {
	type pairs = [][2]int64
	const most = impl.MaxPart
	cases := []struct {
		x, d, a int64
		want    pairs
	}{
		{2, 7, 6, pairs{{3, -1}, {-1, -3}, {-4, -2}, {-3, 1}}},
		{0, 1, 5, pairs{{0, 0}, {0, 0}}},
		{0, most, 9, pairs{{0, 0}, {0, 0}}},
		{1, 3, 5, pairs{{3, 1}, {3, 1}}},
		{1, most, 7, pairs{{0, 10}, {0, 100}}},
		// Of 6 and 7, which both would do, the lesser.
		{2, 3, 7, pairs{{6, 2}, {6, 2}}},
		// The digit a, and a Rest with 9 Rest = a d.
		{5, 9, 5, pairs{{5, 5}, {5, 5}}},
		{2, 3, 6, pairs{{6, 2}, {6, 2}}},
		{7, 9, 7, pairs{{7, 7}, {7, 7}}},
		{8, 9, 8, pairs{{8, 8}, {8, 8}}},
		{1, 1, 9, pairs{{9, 1}, {9, 1}}},
		{most, most, 9, pairs{{9, most}, {9, most}}},
		// The digit -a.
		{3, 8, 5, pairs{{4, -2}, {-2, -4}, {-5, 0}}},
		{1, 12, 6, pairs{{1, -2}, {-1, -8}, {-6, -8}}},
		{9, 13, 7, pairs{{7, -1}, {0, -10}, {-7, -9}}},
		{9, 23, 8, pairs{{4, -2}, {0, -20}, {-8, -16}}},
		// A Rest with 9 Rest = -a d.
		{7, 36, 5, pairs{{2, -2}, {0, -20}}},
		{7, 72, 7, pairs{{1, -2}, {0, -20}, {-2, -56}}},
		{43, 225, 8, pairs{{2, -20}, {0, -200}}},
		// A nought would do as well as a one, at the bound itself.
		{1, 18, 5, pairs{{0, 10}}},
		{1, 10, 9, pairs{{0, 10}, {9, 10}}},
		{most / 2, most, 9, pairs{{4, most}, {9, most}}},
		{most / 2, most, 5, pairs{{5, 0}, {0, 0}}},
		{55555555, most, 5, pairs{{5, 55555550}, {5, 55555500}}},
	}
	for _, c := range cases {
		got, fine := impl.Divide(c.x, c.d, c.a, int64(len(c.want)))
		if !fine || !slices.Equal(got, turnsOf(c.want)) {
			t.Errorf("Divide(%d, %d, %d, %d) = %v, %v, not %v", c.x, c.d, c.a, len(c.want), got, fine, c.want)
		}
	}
}

// TestDivideEdges: a limit that is met is accepted, one passed by one is not.
func TestDivideEdges(t *testing.T) {
	const most = impl.MaxPart
	for a := int64(5); a <= 9; a++ {
		for _, d := range []int64{1, 2, 3, 9, 10, 12345, most - 1, most} {
			greatest := a * d / 9
			for _, n := range []int64{0, 1, mostTurns} {
				checkTurns(t, 0, d, a, n)
				checkTurns(t, greatest, d, a, n)
				refusesDivide(t, -1, d, a, n)
				refusesDivide(t, greatest+1, d, a, n)
			}
			refusesDivide(t, greatest, d, a, -1)
			refusesDivide(t, greatest, d, a, mostTurns+1)
		}
		refusesDivide(t, 0, 0, a, 1)
		refusesDivide(t, 0, most+1, a, 1)
		refusesDivide(t, 1, most+1, a, 1)
		refusesDivide(t, 0, -1, a, 1)
	}
	for _, a := range []int64{4, 10, 0, -5, -9} {
		refusesDivide(t, 0, 7, a, 1)
		refusesDivide(t, 1, 7, a, 1)
		refusesDivide(t, 0, 7, a, 0)
	}
	checkTurns(t, most, most, 9, mostTurns)
	refusesDivide(t, most, most, 8, mostTurns)
	refusesDivide(t, most, most-1, 9, mostTurns)
	refusesDivide(t, most+1, most, 9, mostTurns)
	refusesDivide(t, most+1, most+1, 9, mostTurns)
}

func refusesDivide(t *testing.T, x, d, a, n int64) {
	t.Helper()
	if turns, fine := impl.Divide(x, d, a, n); fine || len(turns) != 0 {
		t.Errorf("Divide(%d, %d, %d, %d) = %v, %v", x, d, a, n, turns, fine)
	}
}

// farParts are out of range for every argument of this chapter. Nine or ten
// times some of them would come round to something small.
var farParts = []int64{
	math.MinInt64, math.MinInt64 + 1, math.MinInt64 / 9, math.MinInt64/9 - 1, math.MinInt64/10 - 1, -1 << 32, -impl.MaxPart - 1,
	impl.MaxPart + 1, 1 << 32, 1<<32 + 7, math.MaxInt64/10 + 1, math.MaxInt64 / 9, math.MaxInt64/9 + 1, 2 * (math.MaxInt64 / 9), 1 << 62,
	math.MaxInt64 - 1, math.MaxInt64,
}

func TestDivideFar(t *testing.T) {
	for _, far := range farParts {
		refusesDivide(t, far, 7, 6, 3)
		refusesDivide(t, far, impl.MaxPart, 9, 18)
		refusesDivide(t, 2, far, 6, 3)
		refusesDivide(t, 0, far, 9, 0)
		refusesDivide(t, 2, 7, far, 3)
		refusesDivide(t, 2, 7, 6, far)
		for _, other := range farParts {
			refusesDivide(t, far, other, 9, 1)
			refusesDivide(t, far, other, other, far)
		}
	}
}

func TestQuotientReckoned(t *testing.T) {
	for _, d := range someDivisors() {
		for _, x := range someDividends(d - 1) {
			for n := int64(1); n <= mostTurns; n++ {
				whole, left := new(big.Int), new(big.Int)
				whole.QuoRem(new(big.Int).Mul(big.NewInt(x), tenTo(int(n))), big.NewInt(d), left)
				want := quotient{digitsOfBig(whole, int(n)), left.Int64(), true}
				if got := quotientOf(x, d, n); !got.same(want) {
					t.Fatalf("Quotient(%d, %d, %d) = %v, not %v", x, d, n, got, want)
				}
			}
		}
	}
}

// TestQuotientMakesUp: 10^n x is the number of the digits times d, and what is
// left, which is below d.
func TestQuotientMakesUp(t *testing.T) {
	for _, d := range someDivisors() {
		for _, x := range someDividends(d - 1) {
			for _, n := range []int64{1, 9, mostTurns} {
				got := quotientOf(x, d, n)
				if !got.fine || int64(len(got.digits)) != n || got.left < 0 || got.left >= d {
					t.Fatalf("Quotient(%d, %d, %d) = %v", x, d, n, got)
				}
				for _, digit := range got.digits {
					if digit < 0 || digit > 9 {
						t.Fatalf("Quotient(%d, %d, %d) = %v", x, d, n, got)
					}
				}
				together := new(big.Int).Mul(bigOf(got.digits), big.NewInt(d))
				together.Add(together, big.NewInt(got.left))
				if together.Cmp(new(big.Int).Mul(big.NewInt(x), tenTo(int(n)))) != 0 {
					t.Fatalf("Quotient(%d, %d, %d) = %v", x, d, n, got)
				}
			}
		}
	}
}

func TestQuotient(t *testing.T) {
	const most = impl.MaxPart
	cases := []struct {
		x, d int64
		want quotient
	}{
		{2, 7, quotient{[]int64{2, 8, 5, 7}, 1, true}},
		{0, 1, quotient{[]int64{0}, 0, true}},
		{0, 1, quotient{make([]int64, mostTurns), 0, true}},
		{0, most, quotient{make([]int64, mostTurns), 0, true}},
		{1, 2, quotient{[]int64{5, 0}, 0, true}},
		{1, 3, quotient{slices.Repeat([]int64{3}, mostTurns), 1, true}},
		{8, 9, quotient{slices.Repeat([]int64{8}, mostTurns), 8, true}},
		{most - 1, most, quotient{[]int64{9}, 99999990, true}},
		{most - 1, most, quotient{append(slices.Repeat([]int64{9}, 8), 0), 0, true}},
		{1, most, quotient{[]int64{0, 0, 0, 0, 0, 0, 0}, 10000000, true}},
		{1, most, quotient{[]int64{0, 0, 0, 0, 0, 0, 0, 1}, 0, true}},
		{1, 81, quotient{[]int64{0, 1, 2, 3, 4, 5, 6, 7, 9, 0}, 10, true}},
	}
	for _, c := range cases {
		if got := quotientOf(c.x, c.d, int64(len(c.want.digits))); !got.same(c.want) {
			t.Errorf("Quotient(%d, %d, %d) = %v, not %v", c.x, c.d, len(c.want.digits), got, c.want)
		}
	}
}

func refusesQuotient(t *testing.T, x, d, n int64) {
	t.Helper()
	if got := quotientOf(x, d, n); !got.same(quotient{}) {
		t.Errorf("Quotient(%d, %d, %d) = %v", x, d, n, got)
	}
}

func TestQuotientRefuses(t *testing.T) {
	const most = impl.MaxPart
	for _, d := range []int64{1, 2, 7, most - 1, most} {
		for _, n := range []int64{1, 2, mostTurns} {
			refusesQuotient(t, -1, d, n)
			refusesQuotient(t, d, d, n)
			refusesQuotient(t, d+1, d, n)
		}
		refusesQuotient(t, 0, d, 0)
		refusesQuotient(t, 0, d, -1)
		refusesQuotient(t, 0, d, mostTurns+1)
		refusesQuotient(t, d-1, d, 0)
		refusesQuotient(t, d-1, d, mostTurns+1)
	}
	for _, d := range []int64{0, -1, -7, most + 1} {
		for _, x := range []int64{0, 1, -1, -8, d, d - 1} {
			refusesQuotient(t, x, d, 1)
		}
	}
	for _, far := range farParts {
		refusesQuotient(t, far, 7, 3)
		refusesQuotient(t, far, most, mostTurns)
		refusesQuotient(t, 0, far, 3)
		refusesQuotient(t, 2, 7, far)
		for _, other := range farParts {
			refusesQuotient(t, far, other, 1)
			refusesQuotient(t, far, other, far)
		}
	}
}

func TestMendedOfDivide(t *testing.T) {
	for a := int64(5); a <= 9; a++ {
		for _, d := range someDivisors() {
			for _, x := range someDividends(min(a*d/9, d-1)) {
				turns, fine := impl.Divide(x, d, a, mostTurns)
				if !fine {
					t.Fatalf("Divide(%d, %d, %d, %d)", x, d, a, mostTurns)
				}
				for n := int64(1); n <= mostTurns; n++ {
					checkMended(t, x, d, a, n, turns[:n])
				}
			}
		}
	}
}

// turnsWith are turns of the digits, the last with the rest, the others with
// rests that no one asks for.
func turnsWith(digits []int64, rest int64) []impl.Turn {
	turns := make([]impl.Turn, len(digits))
	for i, digit := range digits {
		turns[i] = impl.Turn{Digit: digit, Rest: math.MinInt64 + int64(i)*math.MaxInt64/9}
	}
	if len(turns) > 0 {
		turns[len(turns)-1].Rest = rest
	}
	return turns
}

func TestMended(t *testing.T) {
	const most = impl.MaxPart
	cases := []struct {
		digits  []int64
		rest, d int64
		want    quotient
	}{
		{[]int64{3, -1, -4, -3}, 1, 7, quotient{[]int64{2, 8, 5, 7}, 1, true}},
		{[]int64{3, -1, -4}, -2, 7, quotient{[]int64{2, 8, 5}, 5, true}},
		{[]int64{3, -1}, -3, 7, quotient{[]int64{2, 8}, 4, true}},
		{[]int64{3}, -1, 7, quotient{[]int64{2}, 6, true}},
		// The last Rest at 0, d - 1 and 1 - d.
		{[]int64{5}, 0, 2, quotient{[]int64{5}, 0, true}},
		{[]int64{5}, 6, 7, quotient{[]int64{5}, 6, true}},
		{[]int64{5}, -6, 7, quotient{[]int64{4}, 1, true}},
		{[]int64{5}, 0, 1, quotient{[]int64{5}, 0, true}},
		{[]int64{5}, most - 1, most, quotient{[]int64{5}, most - 1, true}},
		{[]int64{5}, 1 - most, most, quotient{[]int64{4}, 1, true}},
		{[]int64{5}, -1, most, quotient{[]int64{4}, most - 1, true}},
		{[]int64{0, 0}, 0, 7, quotient{[]int64{0, 0}, 0, true}},
		{[]int64{1, 0}, -1, 7, quotient{[]int64{0, 9}, 6, true}},
		// Digits whose number is below 0 turn round as the registers do.
		{[]int64{0, 0}, -1, 7, quotient{[]int64{9, 9}, 6, true}},
		{[]int64{-1}, 3, 7, quotient{[]int64{9}, 3, true}},
		{[]int64{-9}, 3, 7, quotient{[]int64{1}, 3, true}},
		{[]int64{-9}, -3, 7, quotient{[]int64{0}, 4, true}},
		{[]int64{9, 9, 9}, 3, 7, quotient{[]int64{9, 9, 9}, 3, true}},
		{[]int64{9, -9, 9}, -3, 7, quotient{[]int64{8, 1, 8}, 4, true}},
		{[]int64{-9, 9, -9}, 3, 7, quotient{[]int64{1, 8, 1}, 3, true}},
		{slices.Repeat([]int64{9}, mostTurns), 0, 7, quotient{slices.Repeat([]int64{9}, mostTurns), 0, true}},
		{slices.Repeat([]int64{-9}, mostTurns), 0, 7, quotient{append(make([]int64, mostTurns-1), 1), 0, true}},
	}
	for _, c := range cases {
		if got := mendedOf(turnsWith(c.digits, c.rest), c.d); !got.same(c.want) {
			t.Errorf("Mended of %v, %d by %d: %v, not %v", c.digits, c.rest, c.d, got, c.want)
		}
	}
}

// TestMendedRegisters: it is the register of Flight that the last Rest asks
// for, whatever the digits are.
func TestMendedRegisters(t *testing.T) {
	for size := 1; size <= mostTurns; size++ {
		for _, digits := range digitLists(size, -9, 9) {
			q, m := flightOf(digits)
			for _, d := range []int64{1, 2, 1000, impl.MaxPart} {
				for _, rest := range []int64{0, d - 1, d / 2} {
					if got := mendedOf(turnsWith(digits, rest), d); !got.same(quotient{q, rest, true}) {
						t.Fatalf("Mended of %v, %d by %d: %v", digits, rest, d, got)
					}
					if got := mendedOf(turnsWith(digits, -rest), d); rest > 0 && !got.same(quotient{m, d - rest, true}) {
						t.Fatalf("Mended of %v, %d by %d: %v", digits, -rest, d, got)
					}
				}
			}
		}
	}
}

func refusesMended(t *testing.T, turns []impl.Turn, d int64) {
	t.Helper()
	if got := mendedOf(turns, d); !got.same(quotient{}) {
		t.Errorf("Mended(%v, %d) = %v", turns, d, got)
	}
}

func TestMendedRefuses(t *testing.T) {
	const most = impl.MaxPart
	for _, d := range []int64{1, 7, most} {
		for _, none := range [][]impl.Turn{nil, {}, make([]impl.Turn, 0, 9), make([]impl.Turn, mostTurns+1), make([]impl.Turn, 1000)} {
			refusesMended(t, none, d)
		}
		for _, size := range []int{1, 2, 3, mostTurns} {
			for _, digits := range spoilt(size, -9, 9) {
				refusesMended(t, turnsWith(digits, 0), d)
			}
			digits := slices.Repeat([]int64{1}, size)
			for _, rest := range append([]int64{d, -d, d + 1, -d - 1}, farParts...) {
				refusesMended(t, turnsWith(digits, rest), d)
			}
		}
	}
	for _, d := range append([]int64{0, -1, -7, most + 1}, farParts...) {
		for _, rest := range append([]int64{0, 1, -1, d, -d}, farParts...) {
			refusesMended(t, turnsWith([]int64{3, -1}, rest), d)
		}
	}
}

// TestMendedAtTheDivisor: with a greatest digit of 9 a Rest may be as great as
// the divisor; such turns are refused, as the chapter says of the last Rest.
func TestMendedAtTheDivisor(t *testing.T) {
	for _, c := range [][3]int64{{1, 10, 1}, {1, 2, 3}, {1, 1, 1}, {impl.MaxPart, impl.MaxPart, mostTurns}} {
		turns, fine := impl.Divide(c[0], c[1], 9, c[2])
		if !fine || turns[c[2]-1].Rest != c[1] {
			t.Fatalf("Divide(%d, %d, 9, %d) = %v, %v", c[0], c[1], c[2], turns, fine)
		}
		refusesMended(t, turns, c[1])
	}
}

func TestQuotientMemory(t *testing.T) {
	turns, _ := impl.Divide(2, 7, 6, 4)
	kept := slices.Clone(turns)
	room := turns[:cap(turns)]
	for i := range room {
		room[i] = impl.Turn{Digit: 99, Rest: 99}
	}
	if again, _ := impl.Divide(2, 7, 6, 4); !slices.Equal(again, kept) {
		t.Errorf("Divide: %v, not %v", again, kept)
	}
	first, want := quotientOf(2, 7, 4), quotient{[]int64{2, 8, 5, 7}, 1, true}
	fillAll(first.digits)
	if again := quotientOf(2, 7, 4); !again.same(want) {
		t.Errorf("Quotient: %v", again)
	}
	for _, rest := range []int64{1, -1} {
		given := append(slices.Clone(kept[:3]), impl.Turn{Digit: -3, Rest: rest}, impl.Turn{Digit: 5, Rest: 5})
		before := slices.Clone(given)
		first := mendedOf(given[:4], 7)
		want := quotient{slices.Clone(first.digits), first.left, first.fine}
		fillAll(first.digits)
		if again := mendedOf(given[:4], 7); !again.same(want) || !slices.Equal(given, before) {
			t.Errorf("Mended: %v, not %v; of %v, once %v", again, want, given, before)
		}
	}
}

// TestQuotientJoins: no goroutine is left behind, also where nothing comes.
func TestQuotientJoins(t *testing.T) {
	before := runtime.NumGoroutine()
	for range 200 {
		impl.Divide(2, 7, 6, 18)
		impl.Divide(2, 7, 6, 0)
		impl.Divide(2, 7, 4, 18)
		impl.Quotient(2, 7, 18)
		impl.Quotient(7, 7, 18)
	}
	for wait := 0; runtime.NumGoroutine() > before; wait++ {
		if wait == 1000 {
			t.Fatalf("%d goroutines, once %d", runtime.NumGoroutine(), before)
		}
		time.Sleep(time.Millisecond)
	}
}
