package tests

import (
	"fmt"
	"math"
	"testing"

	"loop.example/g00085/impl"
)

// operation is one of the chapter's functions, told by the Nums that it takes.
type operation struct {
	name  string
	count int
	call  func(format, mode int64, nums []impl.Num) impl.Result
}

func scaling(n int64) operation {
	return operation{fmt.Sprintf("Scale by %d", n), 1, func(format, mode int64, nums []impl.Num) impl.Result {
		return impl.Scale(format, mode, nums[0], n)
	}}
}

func sumOperations() []operation {
	return []operation{
		{"Add", 2, func(format, mode int64, nums []impl.Num) impl.Result {
			return impl.Add(format, mode, nums[0], nums[1])
		}},
		{"Sub", 2, func(format, mode int64, nums []impl.Num) impl.Result {
			return impl.Sub(format, mode, nums[0], nums[1])
		}},
		{"Mul", 2, func(format, mode int64, nums []impl.Num) impl.Result {
			return impl.Mul(format, mode, nums[0], nums[1])
		}},
		{"Fma", 3, func(format, mode int64, nums []impl.Num) impl.Result {
			return impl.Fma(format, mode, nums[0], nums[1], nums[2])
		}},
		scaling(0), scaling(3), scaling(-20000), scaling(20000),
	}
}

func (o operation) check(t *testing.T, format, mode int64, nums []impl.Num, want impl.Result) {
	t.Helper()
	if got := o.call(format, mode, nums); got != want {
		t.Errorf("%s(%d, %d, %+v) = %+v, not %+v", o.name, format, mode, nums, got, want)
	}
}

func infinity(neg bool) impl.Num {
	return impl.Num{Kind: impl.NkInf, Neg: neg}
}

// plainly is a result without flags.
func plainly(n impl.Num) impl.Result {
	return impl.Result{Num: n}
}

var (
	quietNan  = impl.Num{Kind: impl.NkNan}
	signalNan = impl.Num{Kind: impl.NkSignal}
	notValid  = impl.Result{Num: impl.Num{Kind: impl.NkNan}, Flags: impl.FlInvalid}
)

// fewNums has one of each sort, with noughts and infinities of both signs.
func fewNums(l wordLayout) []impl.Num {
	return append(specialNums(), finite(false, "0", 0), finite(true, "0", l.least), finite(false, "7", -3), finite(true, nines(l.digits), l.greatest))
}

// tuples are all lists of so many of the nums.
func tuples(nums []impl.Num, count int) [][]impl.Num {
	lists := [][]impl.Num{{}}
	for range count {
		longer := [][]impl.Num{}
		for _, list := range lists {
			for _, n := range nums {
				longer = append(longer, append(append([]impl.Num{}, list...), n))
			}
		}
		lists = longer
	}
	return lists
}

func holdsKind(nums []impl.Num, kind int64) bool {
	for _, n := range nums {
		if n.Kind == kind {
			return true
		}
	}
	return false
}

func TestMaxScale(t *testing.T) {
	if impl.MaxScale != 20000 {
		t.Errorf("MaxScale is %d", impl.MaxScale)
	}
}

// refusesFormats: beside whatever Nums, NaNs among them.
func (o operation) refusesFormats(t *testing.T) {
	t.Helper()
	for _, l := range wordLayouts {
		for _, nums := range tuples(fewNums(l), o.count) {
			if got := o.call(l.format, impl.RmEven, nums); got == (impl.Result{}) {
				t.Errorf("%s(%d, 1, %+v) is refused", o.name, l.format, nums)
			}
			for _, format := range noFormats {
				o.check(t, format, impl.RmEven, nums, impl.Result{})
			}
		}
	}
}

func (o operation) refusesModes(t *testing.T) {
	t.Helper()
	for _, l := range wordLayouts {
		for _, nums := range tuples(fewNums(l), o.count) {
			for _, mode := range noModes {
				o.check(t, l.format, mode, nums, impl.Result{})
			}
		}
	}
}

// refusesNums: one wrong Num as each argument; the others are right, and among
// them are what alone would give a NaN or an infinity.
func (o operation) refusesNums(t *testing.T) {
	t.Helper()
	for _, l := range wordLayouts {
		beside := []impl.Num{finite(false, "2", 0), finite(true, "0", 1), infinity(true), quietNan, signalNan}
		for _, wrong := range wrongNums(l) {
			for place := range o.count {
				for _, nums := range tuples(beside, o.count-1) {
					nums = append(append(append([]impl.Num{}, nums[:place]...), wrong), nums[place:]...)
					for _, mode := range []int64{impl.RmEven, impl.RmFloor} {
						o.check(t, l.format, mode, nums, impl.Result{})
					}
				}
			}
		}
	}
}

// refusesTheWide: what is right in the wide format alone is refused in the small
// one.
func (o operation) refusesTheWide(t *testing.T) {
	t.Helper()
	for _, n := range []impl.Num{finite(false, nines(17), 0), finite(true, "1", -399), finite(false, "0", 370)} {
		nums := []impl.Num{n, n, n}[:o.count]
		o.check(t, impl.Fm64, impl.RmEven, nums, impl.Result{})
		if got := o.call(impl.Fm128, impl.RmEven, nums); got == (impl.Result{}) {
			t.Errorf("%s(128, 1, %+v) is refused", o.name, nums)
		}
	}
}

// passesNans: a NaN that signals ahead of one that does not, and both ahead of
// all that infinities and noughts would do.
func (o operation) passesNans(t *testing.T) {
	t.Helper()
	for _, l := range wordLayouts {
		for _, nums := range tuples(fewNums(l), o.count) {
			for _, mode := range allModes {
				switch {
				case holdsKind(nums, impl.NkSignal):
					o.check(t, l.format, mode, nums, notValid)
				case holdsKind(nums, impl.NkNan):
					o.check(t, l.format, mode, nums, plainly(quietNan))
				}
			}
		}
	}
}

func TestSumsRefuse(t *testing.T) {
	for _, o := range sumOperations() {
		o.refusesFormats(t)
		o.refusesModes(t)
		o.refusesNums(t)
		o.refusesTheWide(t)
	}
}

func TestSumsOfNans(t *testing.T) {
	for _, o := range sumOperations() {
		o.passesNans(t)
	}
}

// TestSubLeavesNans: the second one's sign is turned, but a NaN has none.
func TestSubLeavesNans(t *testing.T) {
	for _, l := range wordLayouts {
		for _, mode := range allModes {
			for _, a := range []impl.Num{finite(true, "3", 1), finite(false, "0", 0), infinity(false), infinity(true), quietNan} {
				if got := impl.Sub(l.format, mode, a, quietNan); got != plainly(quietNan) {
					t.Errorf("Sub(%d, %d, %+v, NaN) = %+v", l.format, mode, a, got)
				}
				if got := impl.Sub(l.format, mode, a, signalNan); got != notValid {
					t.Errorf("Sub(%d, %d, %+v, sNaN) = %+v", l.format, mode, a, got)
				}
				for _, wrong := range []impl.Num{{Kind: impl.NkNan, Neg: true}, {Kind: impl.NkSignal, Neg: true}} {
					if got := impl.Sub(l.format, mode, a, wrong); got != (impl.Result{}) {
						t.Errorf("Sub(%d, %d, %+v, %+v) = %+v", l.format, mode, a, wrong, got)
					}
				}
			}
		}
	}
}

// finiteNums are of both signs, noughts among them, at both ends of the format.
func finiteNums(l wordLayout) []impl.Num {
	nums := []impl.Num{}
	for _, neg := range bothSigns {
		for _, exp := range []int64{l.least, -1, 0, l.greatest} {
			nums = append(nums, finite(neg, "0", exp), finite(neg, "1", exp), finite(neg, nines(l.digits), exp))
		}
	}
	return nums
}

func TestAddInfinities(t *testing.T) {
	for _, l := range wordLayouts {
		for _, mode := range allModes {
			for _, neg := range bothSigns {
				one, other := infinity(neg), infinity(!neg)
				for name, got := range map[string]impl.Result{
					"inf + inf":  impl.Add(l.format, mode, one, one),
					"inf - -inf": impl.Sub(l.format, mode, one, other),
				} {
					if got != plainly(one) {
						t.Errorf("%d, %d, %v: %s = %+v", l.format, mode, neg, name, got)
					}
				}
				for name, got := range map[string]impl.Result{
					"inf + -inf": impl.Add(l.format, mode, one, other),
					"inf - inf":  impl.Sub(l.format, mode, one, one),
				} {
					if got != notValid {
						t.Errorf("%d, %d, %v: %s = %+v", l.format, mode, neg, name, got)
					}
				}
				for _, n := range finiteNums(l) {
					for name, got := range map[string]impl.Result{
						"inf + n": impl.Add(l.format, mode, one, n), "n + inf": impl.Add(l.format, mode, n, one),
						"inf - n": impl.Sub(l.format, mode, one, n), "n - -inf": impl.Sub(l.format, mode, n, other),
					} {
						if got != plainly(one) {
							t.Errorf("%d, %d, %v, %+v: %s = %+v", l.format, mode, neg, n, name, got)
						}
					}
				}
			}
		}
	}
}

func TestMulInfinities(t *testing.T) {
	for _, l := range wordLayouts {
		for _, mode := range allModes {
			for _, neg := range bothSigns {
				for _, n := range append(finiteNums(l), infinity(false), infinity(true)) {
					want := plainly(infinity(neg != n.Neg))
					if n.Digits == "0" {
						want = notValid
					}
					for _, nums := range [][]impl.Num{{infinity(neg), n}, {n, infinity(neg)}} {
						if got := impl.Mul(l.format, mode, nums[0], nums[1]); got != want {
							t.Errorf("Mul(%d, %d, %+v) = %+v, not %+v", l.format, mode, nums, got, want)
						}
					}
				}
			}
		}
	}
}

// TestFmaInfinityTimesNought is invalid whatever c is, but for a NaN that does
// not signal, which comes first.
func TestFmaInfinityTimesNought(t *testing.T) {
	for _, l := range wordLayouts {
		for _, mode := range allModes {
			for _, c := range append(finiteNums(l), specialNums()...) {
				want := notValid
				if c.Kind == impl.NkNan {
					want = plainly(quietNan)
				}
				for _, neg := range bothSigns {
					for _, nought := range []impl.Num{finite(neg, "0", 0), finite(!neg, "0", l.least), finite(neg, "0", l.greatest)} {
						checkFma(t, l.format, mode, infinity(neg), nought, c, want)
					}
				}
			}
		}
	}
}

func TestFmaInfinities(t *testing.T) {
	for _, l := range wordLayouts {
		for _, mode := range allModes {
			for _, neg := range bothSigns {
				for _, n := range append(finiteNums(l), infinity(false), infinity(true)) {
					for _, c := range append(finiteNums(l), infinity(false), infinity(true)) {
						want := plainly(infinity(neg != n.Neg))
						switch {
						case n.Digits == "0", c.Kind == impl.NkInf && c.Neg != want.Num.Neg:
							want = notValid
						}
						checkFma(t, l.format, mode, infinity(neg), n, c, want)
					}
				}
			}
		}
	}
}

// TestFmaInfiniteThird: a finite product is lost in it, even one that would
// overflow if it stood alone.
func TestFmaInfiniteThird(t *testing.T) {
	for _, l := range wordLayouts {
		for _, mode := range allModes {
			for _, neg := range bothSigns {
				for _, nums := range tuples(finiteNums(l), 2) {
					if got := impl.Fma(l.format, mode, nums[0], nums[1], infinity(neg)); got != plainly(infinity(neg)) {
						t.Errorf("Fma(%d, %d, %+v, inf %v) = %+v", l.format, mode, nums, neg, got)
					}
				}
			}
		}
	}
}

// noScales are passed by one, far away, or in range in fewer bits.
var noScales = []int64{
	20001, -20001, 20002, -20002, 1 << 16, -1 << 16, 1 << 32, -1 << 32, 1<<32 + 5,
	math.MinInt64, math.MinInt64 + 1, math.MaxInt64 - 1, math.MaxInt64,
}

func TestScaleRefuses(t *testing.T) {
	for _, l := range wordLayouts {
		for _, mode := range allModes {
			for _, a := range append(finiteNums(l), infinity(false), infinity(true)) {
				for _, n := range noScales {
					if got := impl.Scale(l.format, mode, a, n); got != (impl.Result{}) {
						t.Errorf("Scale(%d, %d, %+v, %d) = %+v", l.format, mode, a, n, got)
					}
				}
				for _, n := range []int64{20000, -20000} {
					if got := impl.Scale(l.format, mode, a, n); got == (impl.Result{}) {
						t.Errorf("Scale(%d, %d, %+v, %d) is refused", l.format, mode, a, n)
					}
				}
			}
		}
	}
}

// TestScaleNansFirst: what the chapter says of NaNs stands ahead of what it says
// of n.
func TestScaleNansFirst(t *testing.T) {
	for _, l := range wordLayouts {
		for _, n := range noScales {
			if got := impl.Scale(l.format, impl.RmEven, quietNan, n); got != plainly(quietNan) {
				t.Errorf("Scale(%d, 1, NaN, %d) = %+v", l.format, n, got)
			}
			if got := impl.Scale(l.format, impl.RmEven, signalNan, n); got != notValid {
				t.Errorf("Scale(%d, 1, sNaN, %d) = %+v", l.format, n, got)
			}
		}
	}
}

func TestScaleInfinityStays(t *testing.T) {
	for _, l := range wordLayouts {
		for _, mode := range allModes {
			for _, neg := range bothSigns {
				for _, n := range []int64{-20000, -19999, -1, 0, 1, 19999, 20000} {
					if got := impl.Scale(l.format, mode, infinity(neg), n); got != plainly(infinity(neg)) {
						t.Errorf("Scale(%d, %d, inf %v, %d) = %+v", l.format, mode, neg, n, got)
					}
				}
			}
		}
	}
}
