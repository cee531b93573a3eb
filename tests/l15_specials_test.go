package tests

import (
	"testing"

	"loop.example/g00085/impl"
)

// refusedOrder is what Compare and Total answer where something is not right.
const refusedOrder = 3

// judgement is one of the chapter's functions that tell something of two Nums,
// as a number.
type judgement struct {
	name    string
	refused int64
	call    func(format int64, a, b impl.Num) int64
}

func judgements() []judgement {
	return []judgement{
		{"Compare", refusedOrder, impl.Compare},
		{"Total", refusedOrder, impl.Total},
		{"SameQuantum", 0, func(format int64, a, b impl.Num) int64 {
			if impl.SameQuantum(format, a, b) {
				return 1
			}
			return 0
		}},
	}
}

func (j judgement) check(t *testing.T, format int64, a, b impl.Num, want int64) {
	t.Helper()
	if got := j.call(format, a, b); got != want {
		t.Errorf("%s(%d, %+v, %+v) = %d, not %d", j.name, format, a, b, got, want)
	}
}

// orderOperations take no mode.
func orderOperations() map[string]operation {
	return map[string]operation{
		"Greater": {"Greater", 2, func(format, _ int64, nums []impl.Num) impl.Result {
			return impl.Greater(format, nums[0], nums[1])
		}},
		"NextUp": {"NextUp", 1, func(format, _ int64, nums []impl.Num) impl.Result {
			return impl.NextUp(format, nums[0])
		}},
		"NextDown": {"NextDown", 1, func(format, _ int64, nums []impl.Num) impl.Result {
			return impl.NextDown(format, nums[0])
		}},
	}
}

func TestOrderOperationsRefuse(t *testing.T) {
	for _, o := range orderOperations() {
		o.refusesFormats(t)
		o.refusesNums(t)
		o.refusesTheWide(t)
	}
}

// TestJudgementsRefuseFormats: of a Num and itself, with which all three answer
// otherwise in a format.
func TestJudgementsRefuseFormats(t *testing.T) {
	for _, j := range judgements() {
		for _, l := range wordLayouts {
			for _, n := range fewNums(l) {
				if got := j.call(l.format, n, n); got == j.refused {
					t.Errorf("%s(%d, %+v and itself) is refused", j.name, l.format, n)
				}
				for _, format := range noFormats {
					j.check(t, format, n, n, j.refused)
				}
			}
		}
	}
}

// TestJudgementsRefuseNums: a wrong Num as each argument and as both. Beside it
// stands what it would be like if it were taken, and NaNs.
func TestJudgementsRefuseNums(t *testing.T) {
	for _, j := range judgements() {
		for _, l := range wordLayouts {
			beside := []impl.Num{
				above("2", 0), below("0", l.least), above(nines(l.digits), l.greatest), infinity(false), infinity(true), quietNan, signalNan,
			}
			for _, wrong := range wrongNums(l) {
				j.check(t, l.format, wrong, wrong, j.refused)
				for _, right := range beside {
					j.check(t, l.format, wrong, right, j.refused)
					j.check(t, l.format, right, wrong, j.refused)
				}
			}
		}
	}
}

// TestJudgementsRefuseTheWide: what is right in the wide format alone is refused
// in the small one.
func TestJudgementsRefuseTheWide(t *testing.T) {
	for _, j := range judgements() {
		for _, n := range []impl.Num{above(nines(17), 0), below("1", -399), above("0", 370)} {
			j.check(t, impl.Fm64, n, n, j.refused)
			if got := j.call(impl.Fm128, n, n); got == j.refused {
				t.Errorf("%s(128, %+v and itself) is refused", j.name, n)
			}
		}
	}
}

func TestCompareNans(t *testing.T) {
	for _, l := range wordLayouts {
		nums := append(finiteNums(l), specialNums()...)
		for _, nan := range []impl.Num{quietNan, signalNan} {
			for _, n := range nums {
				for _, pair := range [][2]impl.Num{{nan, n}, {n, nan}} {
					if got := impl.Compare(l.format, pair[0], pair[1]); got != 2 {
						t.Errorf("Compare(%d, %+v) = %d, not 2", l.format, pair, got)
					}
				}
			}
		}
	}
}

func TestNextOfNans(t *testing.T) {
	operations := orderOperations()
	operations["NextUp"].passesNans(t)
	operations["NextDown"].passesNans(t)
}

// TestGreaterNans: one that signals makes it invalid, whatever stands beside it;
// one that does not gives way to what is no NaN.
func TestGreaterNans(t *testing.T) {
	greater := orderOperations()["Greater"]
	for _, l := range wordLayouts {
		for _, n := range append(finiteNums(l), specialNums()...) {
			want := plainly(n)
			if n.Kind == impl.NkSignal {
				want = notValid
			}
			for _, nums := range [][]impl.Num{{n, quietNan}, {quietNan, n}} {
				greater.check(t, l.format, 0, nums, want)
			}
			for _, nums := range [][]impl.Num{{n, signalNan}, {signalNan, n}} {
				greater.check(t, l.format, 0, nums, notValid)
			}
		}
	}
}

// TestSameQuantumKinds: each kind against each, whatever the signs.
func TestSameQuantumKinds(t *testing.T) {
	for _, l := range wordLayouts {
		kinds := [][]impl.Num{
			{above("0", 0), below("0", 0), above("7", 0), below(nines(l.digits), 0)},
			{infinity(false), infinity(true)},
			{quietNan, signalNan},
		}
		for i, ones := range kinds {
			for j, others := range kinds {
				for _, a := range ones {
					for _, b := range others {
						if got := impl.SameQuantum(l.format, a, b); got != (i == j) {
							t.Errorf("SameQuantum(%d, %+v, %+v) = %v", l.format, a, b, got)
						}
					}
				}
			}
		}
	}
}

// TestSameQuantumExps: of finite numbers the Exp alone tells, not digits, sign or
// value.
func TestSameQuantumExps(t *testing.T) {
	for _, l := range wordLayouts {
		exps := append(someExps(l), 7, -7)
		for _, one := range exps {
			for _, other := range exps {
				for _, digits := range []string{"0", "1", "10", nines(l.digits)} {
					for _, neg := range bothSigns {
						a, b := finite(neg, digits, one), above("10", other)
						for _, pair := range [][2]impl.Num{{a, b}, {b, a}, {a, finite(neg, digits, other)}, {a, finite(!neg, "0", other)}} {
							if got := impl.SameQuantum(l.format, pair[0], pair[1]); got != (one == other) {
								t.Errorf("SameQuantum(%d, %+v) = %v", l.format, pair, got)
							}
						}
					}
				}
			}
		}
	}
}

// TestOrderAnswersAnything is promise 18: whatever comes, there is an answer, the
// same again, and the fixed one just where something is not as told.
func TestOrderAnswersAnything(t *testing.T) {
	for _, l := range wordLayouts {
		d := &draws{uint64(l.format) + 151}
		for range 30000 {
			nums := []impl.Num{wildNum(d, l), wildNum(d, l)}
			format := []int64{l.format, l.format, l.format, int64(d.next())}[d.within(0, 3)]
			for name, o := range orderOperations() {
				fine := format == l.format
				for _, n := range nums[:o.count] {
					fine = fine && impl.NumOk(format, n)
				}
				got := o.call(format, 0, nums[:o.count])
				if again := o.call(format, 0, nums[:o.count]); got != again {
					t.Fatalf("%s(%d, %+v) = %+v, then %+v", name, format, nums[:o.count], got, again)
				}
				if (got != impl.Result{}) != fine || fine && !impl.NumOk(format, got.Num) {
					t.Fatalf("%s(%d, %+v) = %+v", name, format, nums[:o.count], got)
				}
			}
			fine := format == l.format && impl.NumOk(format, nums[0]) && impl.NumOk(format, nums[1])
			for _, j := range judgements() {
				got := j.call(format, nums[0], nums[1])
				if again := j.call(format, nums[0], nums[1]); got != again {
					t.Fatalf("%s(%d, %+v) = %d, then %d", j.name, format, nums, got, again)
				}
				if !fine && got != j.refused || fine && j.refused == refusedOrder && got == j.refused {
					t.Fatalf("%s(%d, %+v) = %d", j.name, format, nums, got)
				}
			}
		}
	}
}
