package tests

import (
	"testing"

	"loop.example/g00085/impl"
)

// remainderName is that of the one that takes no mode.
const remainderName = "Remainder"

func ratioOperations() map[string]operation {
	operations := map[string]operation{}
	for _, o := range []operation{
		{"Div", 2, func(format, mode int64, nums []impl.Num) impl.Result {
			return impl.Div(format, mode, nums[0], nums[1])
		}},
		{"Sqrt", 1, func(format, mode int64, nums []impl.Num) impl.Result {
			return impl.Sqrt(format, mode, nums[0])
		}},
		{"Quantize", 2, func(format, mode int64, nums []impl.Num) impl.Result {
			return impl.Quantize(format, mode, nums[0], nums[1])
		}},
		{remainderName, 2, func(format, _ int64, nums []impl.Num) impl.Result {
			return impl.Remainder(format, nums[0], nums[1])
		}},
		{"Whole", 1, func(format, mode int64, nums []impl.Num) impl.Result {
			return impl.Whole(format, mode, nums[0])
		}},
	} {
		operations[o.name] = o
	}
	return operations
}

func TestRatiosRefuse(t *testing.T) {
	for name, o := range ratioOperations() {
		o.refusesFormats(t)
		o.refusesNums(t)
		o.refusesTheWide(t)
		if name != remainderName {
			o.refusesModes(t)
		}
	}
}

func TestRatiosOfNans(t *testing.T) {
	for _, o := range ratioOperations() {
		o.passesNans(t)
	}
}

// TestRatiosNansFirst: a NaN where without it the operation would be invalid, or
// divide by a nought.
func TestRatiosNansFirst(t *testing.T) {
	operations := ratioOperations()
	for _, l := range wordLayouts {
		for _, neg := range bothSigns {
			others := []impl.Num{infinity(neg), finite(neg, "0", 0), finite(neg, "0", l.greatest), finite(neg, nines(l.digits), l.greatest)}
			for _, other := range others {
				for _, mode := range allModes {
					for _, name := range []string{"Div", "Quantize", remainderName} {
						for _, nums := range [][]impl.Num{{quietNan, other}, {other, quietNan}} {
							operations[name].check(t, l.format, mode, nums, plainly(quietNan))
						}
						for _, nums := range [][]impl.Num{{signalNan, other}, {other, signalNan}, {signalNan, quietNan}, {quietNan, signalNan}} {
							operations[name].check(t, l.format, mode, nums, notValid)
						}
					}
				}
			}
		}
	}
}

// TestDivSpecials: all pairs of infinities, noughts and others, with their signs.
func TestDivSpecials(t *testing.T) {
	for _, l := range wordLayouts {
		nums := append(finiteNums(l), infinity(false), infinity(true))
		for _, pair := range tuples(nums, 2) {
			a, b := pair[0], pair[1]
			neg := a.Neg != b.Neg
			want := impl.Result{}
			switch {
			case a.Kind == impl.NkInf && b.Kind == impl.NkInf, a.Digits == "0" && b.Digits == "0":
				want = notValid
			case a.Kind == impl.NkInf:
				want = plainly(infinity(neg))
			case b.Kind == impl.NkInf:
				want = plainly(finite(neg, "0", l.least))
			case b.Digits == "0":
				want = impl.Result{Num: infinity(neg), Flags: impl.FlDivide}
			default:
				continue
			}
			for _, mode := range allModes {
				if got := impl.Div(l.format, mode, a, b); got != want {
					t.Errorf("Div(%d, %d, %+v, %+v) = %+v, not %+v", l.format, mode, a, b, got, want)
				}
			}
		}
	}
}

// TestSqrtBelowZero: only a nought has a root there.
func TestSqrtBelowZero(t *testing.T) {
	for _, l := range wordLayouts {
		for _, mode := range allModes {
			nums := []impl.Num{
				infinity(true), finite(true, "1", 0), finite(true, "4", 0), finite(true, "2", -1), finite(true, "1", l.least),
				finite(true, "10", l.least+1), finite(true, nines(l.digits), l.greatest),
			}
			for _, a := range nums {
				if got := impl.Sqrt(l.format, mode, a); got != notValid {
					t.Errorf("Sqrt(%d, %d, %+v) = %+v", l.format, mode, a, got)
				}
			}
			if got := impl.Sqrt(l.format, mode, infinity(false)); got != plainly(infinity(false)) {
				t.Errorf("Sqrt(%d, %d, inf) = %+v", l.format, mode, got)
			}
		}
	}
}

func TestQuantizeInfinities(t *testing.T) {
	for _, l := range wordLayouts {
		for _, mode := range allModes {
			for _, neg := range bothSigns {
				for _, other := range bothSigns {
					if got := impl.Quantize(l.format, mode, infinity(neg), infinity(other)); got != plainly(infinity(neg)) {
						t.Errorf("Quantize(%d, %d, inf %v, inf %v) = %+v", l.format, mode, neg, other, got)
					}
				}
				for _, n := range finiteNums(l) {
					for _, nums := range [][]impl.Num{{infinity(neg), n}, {n, infinity(neg)}} {
						if got := impl.Quantize(l.format, mode, nums[0], nums[1]); got != notValid {
							t.Errorf("Quantize(%d, %d, %+v) = %+v", l.format, mode, nums, got)
						}
					}
				}
			}
		}
	}
}

// TestRemainderSpecials: a infinite, b a nought, both; b infinite.
func TestRemainderSpecials(t *testing.T) {
	for _, l := range wordLayouts {
		nums := append(finiteNums(l), infinity(false), infinity(true))
		for _, pair := range tuples(nums, 2) {
			a, b := pair[0], pair[1]
			want := plainly(a)
			switch {
			case a.Kind == impl.NkInf, b.Digits == "0":
				want = notValid
			case b.Kind != impl.NkInf:
				continue
			}
			if got := impl.Remainder(l.format, a, b); got != want {
				t.Errorf("Remainder(%d, %+v, %+v) = %+v, not %+v", l.format, a, b, got, want)
			}
		}
	}
}

// TestWholeStays: an infinity, and what has no digit behind the point.
func TestWholeStays(t *testing.T) {
	for _, l := range wordLayouts {
		for _, neg := range bothSigns {
			nums := []impl.Num{infinity(neg)}
			for _, exp := range []int64{0, 1, 2, 150, 201, l.greatest - 1, l.greatest} {
				for _, digits := range []string{"0", "1", "5", "10", head(l.digits), nines(l.digits)} {
					nums = append(nums, finite(neg, digits, exp))
				}
			}
			for _, a := range nums {
				for _, mode := range allModes {
					if got := impl.Whole(l.format, mode, a); got != plainly(a) {
						t.Errorf("Whole(%d, %d, %+v) = %+v", l.format, mode, a, got)
					}
				}
			}
		}
	}
}
