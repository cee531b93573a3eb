package tests

import (
	"math/big"
	"slices"
	"strings"
	"testing"
	"unsafe"

	"loop.example/g00085/impl"
)

func checkCohort(t *testing.T, format int64, n impl.Num, want []impl.Num) {
	t.Helper()
	if got := impl.Cohort(format, n); !slices.Equal(got, want) {
		t.Errorf("Cohort(%d, %+v) = %+v, not %+v", format, n, got, want)
	}
}

// cohortFrom is told by its shortest digits: of that Exp and each one below it,
// down to the lowest.
func cohortFrom(neg bool, digits string, highest, lowest int64) []impl.Num {
	nums := []impl.Num{}
	for exp := lowest; exp <= highest; exp++ {
		nums = append(nums, finite(neg, digits+noughts(int(highest-exp)), exp))
	}
	return nums
}

func TestCohortRefusesFormats(t *testing.T) {
	for _, format := range noFormats {
		for _, l := range wordLayouts {
			for _, n := range finiteNums(l) {
				checkCohort(t, format, n, nil)
			}
		}
	}
}

func TestCohortRefusesNums(t *testing.T) {
	for _, l := range wordLayouts {
		for _, n := range append(wrongNums(l), specialNums()...) {
			checkCohort(t, l.format, n, nil)
		}
	}
}

// TestCohortRefusesTheWide: what is right in the wide format alone has none in
// the small one.
func TestCohortRefusesTheWide(t *testing.T) {
	for _, n := range []impl.Num{above(nines(17), 0), below("1", -399), above("0", 370), above(tenPowerText(16), 0), above("10", -399)} {
		checkCohort(t, impl.Fm64, n, nil)
		if len(impl.Cohort(impl.Fm128, n)) == 0 {
			t.Errorf("Cohort(128, %+v) has nothing", n)
		}
	}
}

func TestCohortOfNoughts(t *testing.T) {
	for _, l := range wordLayouts {
		for exp := l.least; exp <= l.greatest; exp++ {
			for _, neg := range bothSigns {
				n := finite(neg, "0", exp)
				checkCohort(t, l.format, n, []impl.Num{n})
			}
		}
	}
}

// TestCohortFinite asks each member for them all.
func TestCohortFinite(t *testing.T) {
	for _, l := range wordLayouts {
		p, wide := l.digits, p64(l)
		for _, c := range []struct {
			digits          string
			highest, lowest int64
		}{
			// Few digits, more, all but one, and all.
			{"7", 0, 1 - wide}, {"7", 5, 6 - wide}, {"7", -5, -4 - wide}, {"12", 0, 2 - wide}, {"101", 3, 6 - wide},
			{head(p - 1), 0, -1}, {head(p), 0, 0}, {nines(p), -7, -7}, {"1" + noughts(p-2) + "1", 4, 4}, {"1" + noughts(p-3) + "1", 4, 3},
			// At the least Exp and near it.
			{"7", l.least, l.least}, {"7", l.least + 1, l.least}, {"7", l.least + wide - 2, l.least}, {"7", l.least + wide - 1, l.least},
			{"7", l.least + wide, l.least + 1}, {"25", l.least + 3, l.least}, {nines(p), l.least, l.least}, {nines(p), l.least + 1, l.least + 1},
			{nines(p - 1), l.least, l.least}, {nines(p - 1), l.least + 1, l.least}, {nines(p - 1), l.least + 2, l.least + 1},
			// At the greatest one and near it from below.
			{"7", l.greatest, l.greatest + 1 - wide}, {"7", l.greatest - 1, l.greatest - wide}, {"25", l.greatest, l.greatest + 2 - wide},
			{nines(p - 1), l.greatest, l.greatest - 1}, {nines(p), l.greatest, l.greatest}, {nines(p), l.greatest - 1, l.greatest - 1},
		} {
			for _, neg := range bothSigns {
				want := cohortFrom(neg, c.digits, c.highest, c.lowest)
				for _, n := range want {
					checkCohort(t, l.format, n, want)
				}
			}
		}
	}
}

// TestCohortBeyondTheGreatest: where the shortest digits would ask for an Exp
// above the greatest one, noughts stay.
func TestCohortBeyondTheGreatest(t *testing.T) {
	for _, l := range wordLayouts {
		wide := p64(l)
		for _, digits := range []string{"7", "25", head(l.digits - 2)} {
			size := int64(len(digits))
			for _, beyond := range []int64{1, 2, wide - size} {
				for _, neg := range bothSigns {
					want := cohortFrom(neg, digits, l.greatest+beyond, l.greatest+beyond+size-wide)
					want = want[:len(want)-int(beyond)]
					if last := want[len(want)-1]; last.Exp != l.greatest {
						t.Fatalf("%d: the last of %s and %d is %+v", l.format, digits, beyond, last)
					}
					for _, n := range want {
						checkCohort(t, l.format, n, want)
					}
				}
			}
		}
	}
}

// cohortAnew divides the number, in units far below its own, by each power of ten
// that might leave a whole number with no more digits than the format's.
func cohortAnew(t *testing.T, l wordLayout, n impl.Num) []impl.Num {
	t.Helper()
	if n.Digits == "0" {
		return []impl.Num{n}
	}
	below := n.Exp - p64(l) - 1
	units, nums := unitsOf(t, n, below), []impl.Num{}
	units.Abs(units)
	for exp := max(below, l.least); exp <= min(n.Exp+p64(l)+1, l.greatest); exp++ {
		digits, left := new(big.Int).QuoRem(units, tenTo(int(exp-below)), new(big.Int))
		if left.Sign() == 0 && len(digits.String()) <= l.digits {
			nums = append(nums, finite(n.Neg, digits.String(), exp))
		}
	}
	return nums
}

// drawnCohort often has noughts behind, or lies near a bound.
func drawnCohort(d *draws, l wordLayout) impl.Num {
	n := drawnNum(d, l)
	if n.Digits != "0" && d.either() {
		n.Digits += noughts(int(d.within(0, p64(l)-int64(len(n.Digits)))))
	}
	return n
}

func TestCohortDrawn(t *testing.T) {
	for _, l := range wordLayouts {
		d, sizes := &draws{uint64(l.format) + 163}, map[int]int{}
		for range 8000 {
			n := drawnCohort(d, l)
			got, want := impl.Cohort(l.format, n), cohortAnew(t, l, n)
			if !slices.Equal(got, want) {
				t.Fatalf("Cohort(%d, %+v) = %+v, not %+v", l.format, n, got, want)
			}
			sizes[len(got)]++
		}
		// What is drawn has cohorts of all sizes.
		for size := 1; size <= l.digits; size++ {
			if sizes[size] == 0 {
				t.Errorf("%d: no cohort of %d", l.format, size)
			}
		}
	}
}

// TestPromiseCohort is promise 16: all are right, alike by Compare and of one
// sign, with Exps that rise by 1, and the number itself is among them.
func TestPromiseCohort(t *testing.T) {
	for _, l := range wordLayouts {
		d := &draws{uint64(l.format) + 164}
		for range 8000 {
			n := drawnCohort(d, l)
			cohort := impl.Cohort(l.format, n)
			if !slices.Contains(cohort, n) {
				t.Fatalf("Cohort(%d, %+v) = %+v, without it", l.format, n, cohort)
			}
			for i, member := range cohort {
				if !impl.NumOk(l.format, member) || member.Neg != n.Neg || impl.Compare(l.format, member, n) != 0 {
					t.Fatalf("Cohort(%d, %+v) has %+v", l.format, n, member)
				}
				if i > 0 && member.Exp != cohort[i-1].Exp+1 {
					t.Fatalf("Cohort(%d, %+v): behind %+v stands %+v", l.format, n, cohort[i-1], member)
				}
			}
		}
	}
}

// TestPromiseCohortHasAll: what Compare takes as alike, of one sign, is a member
// and has the same cohort. Noughts stand alone.
func TestPromiseCohortHasAll(t *testing.T) {
	for _, l := range wordLayouts {
		d, alike := &draws{uint64(l.format) + 165}, 0
		for range 20000 {
			n := drawnCohort(d, l)
			kin := drawnKin(d, l, n)
			if n.Digits == "0" || kin.Neg != n.Neg || impl.Compare(l.format, n, kin) != 0 {
				continue
			}
			cohort := impl.Cohort(l.format, n)
			if !slices.Contains(cohort, kin) || !slices.Equal(impl.Cohort(l.format, kin), cohort) {
				t.Fatalf("Cohort(%d, %+v) = %+v, but alike is %+v", l.format, n, cohort, kin)
			}
			alike++
		}
		if alike < 3000 {
			t.Errorf("%d: only %d were alike", l.format, alike)
		}
	}
}

// TestCohortAnswersAnything is promise 18: there is something just of what is
// finite and right.
func TestCohortAnswersAnything(t *testing.T) {
	for _, l := range wordLayouts {
		d := &draws{uint64(l.format) + 166}
		for range 30000 {
			n := wildNum(d, l)
			format := []int64{l.format, l.format, l.format, int64(d.next())}[d.within(0, 3)]
			got := impl.Cohort(format, n)
			if (len(got) > 0) != (impl.NumOk(format, n) && n.Kind == impl.NkFinite) {
				t.Fatalf("Cohort(%d, %+v) = %+v", format, n, got)
			}
			if again := impl.Cohort(format, n); !slices.Equal(got, again) {
				t.Fatalf("Cohort(%d, %+v) = %+v, then %+v", format, n, got, again)
			}
		}
	}
}

// TestCohortIsNewMemory: what is written into an answer changes no later one, and
// no digits are the bytes that were handed in.
func TestCohortIsNewMemory(t *testing.T) {
	for _, l := range wordLayouts {
		for _, digits := range []string{mixedNatural(3, 2), mixedNatural(3, l.digits), "1200", strings.Repeat("0", 1)} {
			n := above(strings.Clone(digits), 0)
			got := impl.Cohort(l.format, n)
			want := slices.Clone(got)
			for i := range got {
				if unsafe.StringData(got[i].Digits) == unsafe.StringData(n.Digits) {
					t.Errorf("Cohort(%d, %+v): member %d shares the memory of the digits", l.format, n, i)
				}
				got[i] = impl.Num{Kind: impl.NkNan, Neg: true, Exp: -1, Digits: "x"}
			}
			if got = got[:cap(got)]; len(got) > len(want) {
				got[len(want)] = impl.Num{Digits: "x"}
			}
			checkCohort(t, l.format, n, want)
			if n.Digits != digits {
				t.Errorf("Cohort(%d, ..) changed the digits %s", l.format, digits)
			}
		}
	}
}
