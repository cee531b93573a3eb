package tests

import (
	"math/big"
	"slices"
	"strings"
	"testing"
	"unsafe"

	"loop.example/g00085/impl"
)

// signOf is -1, 0 or 1.
func signOf(n int) int64 {
	return int64(min(max(n, -1), 1))
}

// comparedAnew goes by the exact values.
func comparedAnew(t *testing.T, a, b impl.Num) int64 {
	t.Helper()
	if holdsKind([]impl.Num{a, b}, impl.NkNan) || holdsKind([]impl.Num{a, b}, impl.NkSignal) {
		return 2
	}
	return signOf(compareNums(t, a, b))
}

// totalAnew goes by what tells first: the sign, the kind, the value, the Exp.
func totalAnew(t *testing.T, a, b impl.Num) int64 {
	t.Helper()
	if a.Neg != b.Neg {
		if a.Neg {
			return -1
		}
		return 1
	}
	if a.Neg {
		return totalAnew(t, turned(b), turned(a))
	}
	kinds := []int64{impl.NkFinite, impl.NkInf, impl.NkSignal, impl.NkNan}
	if a.Kind != b.Kind {
		return signOf(slices.Index(kinds, a.Kind) - slices.Index(kinds, b.Kind))
	}
	if a.Kind != impl.NkFinite {
		return 0
	}
	if order := compareNums(t, a, b); order != 0 {
		return signOf(order)
	}
	return signOf(int(a.Exp - b.Exp))
}

// greaterAnew is of those that are no NaN the one behind.
func greaterAnew(t *testing.T, a, b impl.Num) impl.Result {
	t.Helper()
	switch {
	case a.Kind == impl.NkSignal || b.Kind == impl.NkSignal:
		return notValid
	case a.Kind == impl.NkNan:
		return plainly(b)
	case b.Kind == impl.NkNan || totalAnew(t, a, b) > 0:
		return plainly(a)
	}
	return plainly(b)
}

// nextAnew takes a finite number to units of the least Exp, adds the step that
// the format has there, and tells what comes by as many digits as there are.
func nextAnew(t *testing.T, l wordLayout, a impl.Num) impl.Num {
	t.Helper()
	units := unitsOf(t, a, l.least)
	size := strings.TrimLeft(units.String(), "-")
	if units.Sign() < 0 && strings.Trim(size[1:], "0") == "" && size[0] == '1' {
		// Steps towards 0 from a power of ten are those below it.
		size = size[1:]
	}
	next := new(big.Int).Add(units, tenTo(max(0, len(size)-l.digits)))
	digits := strings.TrimLeft(next.String(), "-")
	over := max(0, len(digits)-l.digits)
	if strings.Trim(digits[len(digits)-over:], "0") != "" {
		t.Fatalf("%d: next to %+v is %s, which has too many digits", l.format, a, next)
	}
	if l.least+int64(over) > l.greatest {
		return infinity(false)
	}
	return finite(units.Sign() < 0, digits[:len(digits)-over], l.least+int64(over))
}

// drawnKin is something that stands near to a: of its value, or nearly, or its
// sign turned; or anything.
func drawnKin(d *draws, l wordLayout, a impl.Num) impl.Num {
	if a.Kind != impl.NkFinite {
		return drawnAny(d, l)
	}
	kin := a
	switch d.within(0, 7) {
	case 0, 1:
		kin = toldLower(d, l, a)
	case 2:
		kin = toldLower(d, l, a)
		kin.Digits = bumpedEither(d, l, kin.Digits)
	case 3:
		kin.Exp = kept(a.Exp+d.within(-2, 2), l.least, l.greatest)
	case 4:
		kin = turned(a)
	case 5:
		kin = drawnBeside(d, l, a)
	default:
		kin = drawnAny(d, l)
	}
	if kin.Digits == "0" && d.either() {
		kin.Exp = d.within(l.least, l.greatest)
	}
	return kin
}

// toldLower has a lesser Exp, often the least with which it can be told. A nought
// stays.
func toldLower(d *draws, l wordLayout, a impl.Num) impl.Num {
	if a.Digits == "0" {
		return a
	}
	more := min(p64(l)-int64(len(a.Digits)), a.Exp-l.least)
	if d.either() {
		more = d.within(0, more)
	}
	return finite(a.Neg, a.Digits+noughts(int(more)), a.Exp-more)
}

// bumpedEither has one more or less in its last place, if the format has the
// digits for it.
func bumpedEither(d *draws, l wordLayout, digits string) string {
	number, _ := new(big.Int).SetString(digits, 10)
	number.Add(number, big.NewInt(2*d.within(0, 1)-1))
	if other := number.String(); number.Sign() >= 0 && len(other) <= l.digits {
		return other
	}
	return digits
}

// drawnAny is sometimes an infinity or a NaN.
func drawnAny(d *draws, l wordLayout) impl.Num {
	if d.within(0, 7) == 0 {
		return specialNums()[d.within(0, 3)]
	}
	return drawnNum(d, l)
}

// drawnOrder are numbers of which neighbours are often kin.
func drawnOrder(d *draws, l wordLayout, count int) []impl.Num {
	nums := []impl.Num{drawnAny(d, l)}
	for len(nums) < count {
		nums = append(nums, drawnKin(d, l, nums[len(nums)-1]))
	}
	return nums
}

func TestOrderDrawn(t *testing.T) {
	for _, l := range wordLayouts {
		d, told := &draws{uint64(l.format) + 152}, map[int64]int{}
		for range 15000 {
			nums := drawnOrder(d, l, 2)
			a, b := nums[0], nums[1]
			if got, want := impl.Compare(l.format, a, b), comparedAnew(t, a, b); got != want {
				t.Fatalf("Compare(%d, %+v, %+v) = %d, not %d", l.format, a, b, got, want)
			}
			if got, want := impl.Total(l.format, a, b), totalAnew(t, a, b); got != want {
				t.Fatalf("Total(%d, %+v, %+v) = %d, not %d", l.format, a, b, got, want)
			}
			if got, want := impl.Greater(l.format, a, b), greaterAnew(t, a, b); got != want {
				t.Fatalf("Greater(%d, %+v, %+v) = %+v, not %+v", l.format, a, b, got, want)
			}
			like := a.Kind == b.Kind && a.Exp == b.Exp || a.Kind >= impl.NkNan && b.Kind >= impl.NkNan
			if got := impl.SameQuantum(l.format, a, b); got != like {
				t.Fatalf("SameQuantum(%d, %+v, %+v) = %v", l.format, a, b, got)
			}
			told[impl.Compare(l.format, a, b)]++
		}
		// What is drawn comes to each answer often enough.
		for answer := int64(-1); answer <= 2; answer++ {
			if told[answer] < 1000 {
				t.Errorf("%d: Compare told %d only %d times", l.format, answer, told[answer])
			}
		}
	}
}

// TestPromiseOrders is promise 15: both are orders, and Total is the finer one.
func TestPromiseOrders(t *testing.T) {
	for _, l := range wordLayouts {
		d := &draws{uint64(l.format) + 153}
		for range 40000 {
			nums := drawnOrder(d, l, 3)
			a, b, c := nums[0], nums[1], nums[2]
			compared, total := impl.Compare(l.format, a, b), impl.Total(l.format, a, b)
			if back := impl.Compare(l.format, b, a); compared != 2 && back != -compared || compared == 2 && back != 2 {
				t.Fatalf("Compare(%d, %+v, %+v) = %d, and back %d", l.format, a, b, compared, back)
			}
			if back := impl.Total(l.format, b, a); back != -total || (total == 0) != (a == b) {
				t.Fatalf("Total(%d, %+v, %+v) = %d, and back %d", l.format, a, b, total, back)
			}
			if compared == -1 && total != -1 || compared == 1 && total != 1 {
				t.Fatalf("%d, %+v, %+v: Compare tells %d, Total %d", l.format, a, b, compared, total)
			}
			checkThrough(t, "Compare", l.format, impl.Compare, a, b, c)
			checkThrough(t, "Total", l.format, impl.Total, a, b, c)
		}
	}
}

// checkThrough: what is not behind b, and b not behind c, is not behind c; and
// it is ahead of c where one of the two is ahead.
func checkThrough(t *testing.T, name string, format int64, order func(int64, impl.Num, impl.Num) int64, a, b, c impl.Num) {
	t.Helper()
	one, two := order(format, a, b), order(format, b, c)
	if one > 0 || two > 0 {
		return
	}
	if got := order(format, a, c); got != min(one, two) {
		t.Fatalf("%s of %d, %+v, %+v, %+v: %d and %d, but through %d", name, format, a, b, c, one, two, got)
	}
}

// TestPromiseTotalSorts: sorted by Total, each of many stands so to each that
// comes behind it.
func TestPromiseTotalSorts(t *testing.T) {
	for _, l := range wordLayouts {
		d := &draws{uint64(l.format) + 154}
		for range 15 {
			nums := drawnOrder(d, l, 120)
			slices.SortFunc(nums, func(a, b impl.Num) int { return int(impl.Total(l.format, a, b)) })
			for i, a := range nums {
				for _, b := range nums[i:] {
					if got := impl.Total(l.format, a, b); got > 0 || got == 0 && a != b {
						t.Fatalf("Total(%d, %+v, %+v) = %d, but the first was sorted ahead", l.format, a, b, got)
					}
					if got := impl.Compare(l.format, a, b); got == 1 {
						t.Fatalf("Compare(%d, %+v, %+v) = %d, but the first was sorted ahead", l.format, a, b, got)
					}
				}
			}
		}
	}
}

// TestPromiseGreater: it is one of the two, and neither is more by either order.
func TestPromiseGreater(t *testing.T) {
	for _, l := range wordLayouts {
		d := &draws{uint64(l.format) + 155}
		for range 40000 {
			nums := drawnOrder(d, l, 2)
			got, back := impl.Greater(l.format, nums[0], nums[1]), impl.Greater(l.format, nums[1], nums[0])
			if got != back {
				t.Fatalf("Greater(%d, %+v) = %+v, and back %+v", l.format, nums, got, back)
			}
			for _, n := range nums {
				if compared := impl.Compare(l.format, n, got.Num); compared == 1 || compared != 2 && impl.Total(l.format, n, got.Num) > 0 {
					t.Fatalf("Greater(%d, %+v) = %+v", l.format, nums, got)
				}
			}
		}
	}
}

// drawnNeighbour is finite, and often next to a place where the steps change.
func drawnNeighbour(d *draws, l wordLayout) impl.Num {
	n := drawnNum(d, l)
	switch d.within(0, 3) {
	case 0:
		n.Digits = tenPowerText(int(d.within(0, p64(l)-1)))
	case 1:
		n.Digits = nines(int(d.within(1, p64(l))))
	}
	return n
}

func TestNextDrawn(t *testing.T) {
	for _, l := range wordLayouts {
		d := &draws{uint64(l.format) + 156}
		for range 5000 {
			a := drawnNeighbour(d, l)
			want := nextAnew(t, l, a)
			if got := impl.NextUp(l.format, a); got != plainly(want) || !impl.NumOk(l.format, got.Num) {
				t.Fatalf("NextUp(%d, %+v) = %+v, not %+v", l.format, a, got, want)
			}
			want = turned(nextAnew(t, l, turned(a)))
			if got := impl.NextDown(l.format, a); got != plainly(want) || !impl.NumOk(l.format, got.Num) {
				t.Fatalf("NextDown(%d, %+v) = %+v, not %+v", l.format, a, got, want)
			}
		}
	}
}

// TestPromiseNext: the next one of a finite number is more, and back from it is
// the number again by value; nothing that is drawn lies between.
func TestPromiseNext(t *testing.T) {
	for _, l := range wordLayouts {
		d := &draws{uint64(l.format) + 157}
		for range 5000 {
			a := drawnNeighbour(d, l)
			up, down := impl.NextUp(l.format, a).Num, impl.NextDown(l.format, a).Num
			if compareNums(t, up, a) <= 0 || compareNums(t, down, a) >= 0 {
				t.Fatalf("%d, %+v: next to it are %+v and %+v", l.format, a, up, down)
			}
			if back := impl.NextDown(l.format, up); compareNums(t, back.Num, a) != 0 || back.Flags != 0 {
				t.Fatalf("NextDown(%d, %+v) = %+v, not %+v", l.format, up, back, a)
			}
			if back := impl.NextUp(l.format, down); compareNums(t, back.Num, a) != 0 || back.Flags != 0 {
				t.Fatalf("NextUp(%d, %+v) = %+v, not %+v", l.format, down, back, a)
			}
			checkBetweenNone(t, d, l, a, up)
			checkBetweenNone(t, d, l, down, a)
		}
	}
}

// checkBetweenNone draws what is kin to the lower or to the upper one.
func checkBetweenNone(t *testing.T, d *draws, l wordLayout, lower, upper impl.Num) {
	t.Helper()
	for _, near := range []impl.Num{lower, upper} {
		for range 4 {
			n := drawnKin(d, l, near)
			if impl.Compare(l.format, lower, n) == -1 && impl.Compare(l.format, n, upper) == -1 {
				t.Fatalf("%d: %+v lies between %+v and %+v", l.format, n, lower, upper)
			}
		}
	}
}

// TestNextHasTheLeastExp: with one less there is no way to tell it.
func TestNextHasTheLeastExp(t *testing.T) {
	for _, l := range wordLayouts {
		d := &draws{uint64(l.format) + 158}
		for range 20000 {
			a := drawnNeighbour(d, l)
			for _, got := range []impl.Num{impl.NextUp(l.format, a).Num, impl.NextDown(l.format, a).Num} {
				if got.Kind == impl.NkFinite && got.Exp > l.least && len(got.Digits) < l.digits {
					t.Fatalf("%d: next to %+v is %+v, which a lesser Exp tells", l.format, a, got)
				}
			}
		}
	}
}

// TestOrderIsNewMemory: digits that come out as they went in are still none of
// the bytes that were handed in, and those stay.
func TestOrderIsNewMemory(t *testing.T) {
	for _, l := range wordLayouts {
		for _, size := range []int{2, 7, l.digits} {
			digits := mixedNatural(3, size)
			before := strings.Clone(digits)
			a := above(digits, 0)
			for name, got := range map[string]impl.Result{
				"a, not 0":         impl.Greater(l.format, a, above("0", 0)),
				"not 0, but a":     impl.Greater(l.format, above("0", 0), a),
				"a, not a NaN":     impl.Greater(l.format, a, quietNan),
				"not a NaN, but a": impl.Greater(l.format, quietNan, a),
				"a or a":           impl.Greater(l.format, a, a),
			} {
				if got != plainly(above(before, 0)) || digits != before {
					t.Errorf("%d: %s = %+v, and a is %s", l.format, name, got, digits)
				}
				if unsafe.StringData(got.Num.Digits) == unsafe.StringData(digits) {
					t.Errorf("%d: %s shares the memory of a", l.format, name)
				}
			}
		}
	}
}
