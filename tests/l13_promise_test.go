package tests

import (
	"math/big"
	"strings"
	"testing"
	"unsafe"

	"loop.example/g00085/impl"
)

// exactly is units times 10 to the exp, however far that reaches.
type exactly struct {
	units *big.Int
	exp   int64
}

func exactOf(t *testing.T, n impl.Num) exactly {
	t.Helper()
	return exactly{unitsOf(t, n, n.Exp), n.Exp}
}

func (x exactly) plus(y exactly) exactly {
	if x.exp < y.exp {
		return y.plus(x)
	}
	units := new(big.Int).Mul(x.units, tenTo(int(x.exp-y.exp)))
	return exactly{units.Add(units, y.units), y.exp}
}

func (x exactly) times(y exactly) exactly {
	return exactly{new(big.Int).Mul(x.units, y.units), x.exp + y.exp}
}

func kept(n, least, greatest int64) int64 {
	return min(max(n, least), greatest)
}

// roundedOnce goes by the value: what the format's digits and Exps hold is told
// with the Exp nearest to want; all else is rounded at the lowest place that the
// format has for it. neg is the sign of a 0.
func roundedOnce(t *testing.T, l wordLayout, mode int64, x exactly, neg bool, want int64) impl.Result {
	t.Helper()
	if x.units.Sign() == 0 {
		return plainly(finite(neg, "0", kept(want, l.least, l.greatest)))
	}
	neg = x.units.Sign() < 0
	digits := strings.TrimLeft(x.units.String(), "-")
	short := strings.TrimRight(digits, "0")
	highest := x.exp + int64(len(digits)-len(short))
	lowest := max(l.least, highest+int64(len(short)-l.digits))
	if len(short) <= l.digits && highest >= l.least {
		if lowest > l.greatest {
			return overAnew(l, mode, neg)
		}
		exp := kept(want, lowest, min(highest, l.greatest))
		return plainly(finite(neg, short+noughts(int(highest-exp)), exp))
	}
	rounded, _ := roundedAnew(t, mode, neg, short, lowest-highest, false)
	if len(rounded) > l.digits {
		rounded, lowest = rounded[:l.digits], lowest+1
	}
	if lowest > l.greatest {
		return overAnew(l, mode, neg)
	}
	flags := int64(inexact)
	if highest+int64(len(short)) < l.least+p64(l) {
		flags = under
	}
	return impl.Result{Num: finite(neg, rounded, lowest), Flags: flags}
}

func overAnew(l wordLayout, mode int64, neg bool) impl.Result {
	switch {
	case mode == impl.RmZero, mode == impl.RmFloor && !neg, mode == impl.RmCeil && neg:
		return impl.Result{Num: finite(neg, nines(l.digits), l.greatest), Flags: over}
	}
	return impl.Result{Num: infinity(neg), Flags: over}
}

// signOfNought is that of a sum that is 0.
func signOfNought(mode int64, a, b bool) bool {
	if a == b {
		return a
	}
	return mode == impl.RmFloor
}

func addedAnew(t *testing.T, l wordLayout, mode int64, a, b impl.Num) impl.Result {
	t.Helper()
	sum := exactOf(t, a).plus(exactOf(t, b))
	return roundedOnce(t, l, mode, sum, signOfNought(mode, a.Neg, b.Neg), min(a.Exp, b.Exp))
}

func multipliedAnew(t *testing.T, l wordLayout, mode int64, a, b impl.Num) impl.Result {
	t.Helper()
	return roundedOnce(t, l, mode, exactOf(t, a).times(exactOf(t, b)), a.Neg != b.Neg, a.Exp+b.Exp)
}

func fusedAnew(t *testing.T, l wordLayout, mode int64, a, b, c impl.Num) impl.Result {
	t.Helper()
	sum := exactOf(t, a).times(exactOf(t, b)).plus(exactOf(t, c))
	return roundedOnce(t, l, mode, sum, signOfNought(mode, a.Neg != b.Neg, c.Neg), min(a.Exp+b.Exp, c.Exp))
}

func scaledAnew(t *testing.T, l wordLayout, mode int64, a impl.Num, n int64) impl.Result {
	t.Helper()
	x := exactOf(t, a)
	return roundedOnce(t, l, mode, exactly{x.units, x.exp + n}, a.Neg, x.exp+n)
}

// drawnDigits are sometimes 0, and of the sizes at which something turns.
func drawnDigits(d *draws, l wordLayout) string {
	if d.within(0, 9) == 0 {
		return "0"
	}
	sizes := []int64{p64(l), p64(l), d.within(1, p64(l)), d.within(1, 3)}
	return d.natural(int(sizes[d.within(0, 3)]))
}

func drawnNum(d *draws, l wordLayout) impl.Num {
	exps := []int64{
		d.within(-20, 20), d.within(l.least, l.least+p64(l)), d.within(l.greatest-p64(l), l.greatest), d.within(l.least, l.greatest),
	}
	return finite(d.either(), drawnDigits(d, l), exps[d.within(0, 3)])
}

// drawnBeside stands to x (which may be a product, and have more digits) as
// something that touches it, cancels it, or lies far away. What is too far for
// the format is drawn nearer.
func drawnBeside(d *draws, l wordLayout, x impl.Num) impl.Num {
	digits, size := drawnDigits(d, l), int64(len(x.Digits))
	exps := []int64{
		x.Exp + d.within(-3, 3), x.Exp + d.within(-p64(l)-5, p64(l)+size+5), x.Exp - d.within(140, 240), x.Exp + d.within(140, 240),
		d.within(l.least, l.greatest),
	}
	exp := exps[d.within(0, 4)]
	if d.within(0, 4) == 0 {
		// As much as the format's digits hold of x itself.
		digits, exp = x.Digits[:min(len(x.Digits), l.digits)], x.Exp+max(0, size-p64(l))
	}
	return finite(d.either(), digits, kept(exp, l.least, l.greatest))
}

// drawnFactor lets the product with x come near to a bound of the format.
func drawnFactor(d *draws, l wordLayout, x impl.Num) impl.Num {
	digits := drawnDigits(d, l)
	together := int64(len(x.Digits) + len(digits))
	exps := []int64{
		d.within(-20, 20), l.least - x.Exp - d.within(-3, together+3), l.least - x.Exp - d.within(0, 260),
		l.greatest - x.Exp - together + p64(l) + d.within(-3, 3), d.within(l.least, l.greatest), l.least + d.within(0, 3),
	}
	return finite(d.either(), digits, kept(exps[d.within(0, 5)], l.least, l.greatest))
}

// exactProduct has as many digits as it takes, so it may be right in no format.
func exactProduct(t *testing.T, a, b impl.Num) impl.Num {
	t.Helper()
	product := new(big.Int).Mul(bigNatural(t, a.Digits), bigNatural(t, b.Digits))
	return finite(a.Neg != b.Neg, product.String(), a.Exp+b.Exp)
}

// checkOnce asks for what roundedOnce gives, and that it is right.
func checkOnce(t *testing.T, l wordLayout, o operation, mode int64, nums []impl.Num, want impl.Result) {
	t.Helper()
	got := o.call(l.format, mode, nums)
	if got != want || !impl.NumOk(l.format, got.Num) {
		t.Fatalf("%s(%d, %d, %+v) = %+v, not %+v", o.name, l.format, mode, nums, got, want)
	}
}

func TestSumsDrawn(t *testing.T) {
	operations := sumOperations()
	for _, l := range wordLayouts {
		d := &draws{uint64(l.format) + 13}
		for range 7000 {
			a := drawnNum(d, l)
			b, factor := drawnBeside(d, l, a), drawnFactor(d, l, a)
			for _, mode := range allModes {
				checkOnce(t, l, operations[0], mode, []impl.Num{a, b}, addedAnew(t, l, mode, a, b))
				checkOnce(t, l, operations[1], mode, []impl.Num{a, b}, addedAnew(t, l, mode, a, turned(b)))
				checkOnce(t, l, operations[2], mode, []impl.Num{a, factor}, multipliedAnew(t, l, mode, a, factor))
			}
		}
	}
}

func TestFmaDrawn(t *testing.T) {
	operations := sumOperations()
	for _, l := range wordLayouts {
		d := &draws{uint64(l.format) + 14}
		for range 10000 {
			a := drawnNum(d, l)
			b := drawnFactor(d, l, a)
			c := drawnBeside(d, l, exactProduct(t, a, b))
			for _, mode := range allModes {
				checkOnce(t, l, operations[3], mode, []impl.Num{a, b, c}, fusedAnew(t, l, mode, a, b, c))
			}
		}
	}
}

func TestScaleDrawn(t *testing.T) {
	for _, l := range wordLayouts {
		d := &draws{uint64(l.format) + 15}
		for range 10000 {
			a := drawnNum(d, l)
			size := int64(len(a.Digits))
			ns := []int64{
				d.within(-9, 9), l.least - a.Exp - d.within(-3, size+3), l.least - a.Exp - d.within(0, 260),
				l.greatest - a.Exp + d.within(-3, p64(l)+3), d.within(-20000, 20000),
			}
			n := kept(ns[d.within(0, 4)], -20000, 20000)
			for _, mode := range allModes {
				checkOnce(t, l, scaling(n), mode, []impl.Num{a}, scaledAnew(t, l, mode, a, n))
			}
		}
	}
}

// TestAddEveryGap: from Exps alike to farther apart than a natural has digits,
// one by one.
func TestAddEveryGap(t *testing.T) {
	for _, l := range wordLayouts {
		p := l.digits
		few := []string{"1", "5" + noughts(p-1), head(p), nines(p)}
		for _, pair := range tuples([]impl.Num{above(few[0], 0), above(few[1], 0), above(few[2], 0), above(few[3], 0)}, 2) {
			for gap := range int64(260) {
				for _, neg := range bothSigns {
					a, b := above(pair[0].Digits, gap), finite(neg, pair[1].Digits, 0)
					for _, mode := range allModes {
						checkSum(t, l.format, mode, a, b, addedAnew(t, l, mode, a, b))
					}
				}
			}
		}
	}
}

// TestFmaEveryGap lets a product of all digits pass along a c, from far below it
// to far above.
func TestFmaEveryGap(t *testing.T) {
	for _, l := range wordLayouts {
		p := l.digits
		for _, factors := range [][2]string{{nines(p), nines(p)}, {"3" + noughts(p-2) + "1", "5"}, {"1", "1"}} {
			for _, third := range []string{"1", "5" + noughts(p-1), nines(p)} {
				for gap := int64(-260); gap <= 260; gap++ {
					for _, neg := range bothSigns {
						a, b, c := above(factors[0], gap), above(factors[1], 0), finite(neg, third, 0)
						for _, mode := range allModes {
							checkFma(t, l.format, mode, a, b, c, fusedAnew(t, l, mode, a, b, c))
						}
					}
				}
			}
		}
	}
}

// TestPromiseBothWays is promise 13: Add and Mul go both ways, whatever they are
// given.
func TestPromiseBothWays(t *testing.T) {
	for _, l := range wordLayouts {
		d := &draws{uint64(l.format) + 16}
		specials := append(specialNums(), impl.Num{}, finite(false, "00", 0), finite(true, "1", l.greatest+1))
		for range 10000 {
			a := drawnNum(d, l)
			b, factor := drawnBeside(d, l, a), drawnFactor(d, l, a)
			special := specials[d.within(0, int64(len(specials)-1))]
			for _, mode := range allModes {
				for _, other := range []impl.Num{b, factor, special} {
					if one, two := impl.Add(l.format, mode, a, other), impl.Add(l.format, mode, other, a); one != two {
						t.Fatalf("%d, %d, %+v, %+v: the sum is %+v or %+v", l.format, mode, a, other, one, two)
					}
					if one, two := impl.Mul(l.format, mode, a, other), impl.Mul(l.format, mode, other, a); one != two {
						t.Fatalf("%d, %d, %+v, %+v: the product is %+v or %+v", l.format, mode, a, other, one, two)
					}
				}
			}
		}
	}
}

// TestPromiseSubItself: a finite number less itself is 0, without flags.
func TestPromiseSubItself(t *testing.T) {
	for _, l := range wordLayouts {
		d := &draws{uint64(l.format) + 17}
		for range 20000 {
			a := drawnNum(d, l)
			for _, mode := range allModes {
				want := plainly(finite(mode == impl.RmFloor, "0", a.Exp))
				if got := impl.Sub(l.format, mode, a, a); got != want {
					t.Fatalf("Sub(%d, %d, %+v and itself) = %+v", l.format, mode, a, got)
				}
			}
		}
	}
}

// TestPromiseFmaOfOne: with 1 as the second Fma is Add by value, however the 1
// is told.
func TestPromiseFmaOfOne(t *testing.T) {
	for _, l := range wordLayouts {
		d := &draws{uint64(l.format) + 18}
		ones := []impl.Num{above("1", 0), above("10", -1), above(tenPowerText(l.digits-1), 1-p64(l))}
		for range 10000 {
			a := drawnNum(d, l)
			c := drawnBeside(d, l, a)
			for _, mode := range allModes {
				sum := impl.Add(l.format, mode, a, c)
				for i, one := range ones {
					got := impl.Fma(l.format, mode, a, one, c)
					if i == 0 && got != sum || got.Num.Kind != sum.Num.Kind || got.Flags != sum.Flags || compareNums(t, got.Num, sum.Num) != 0 {
						t.Fatalf("Fma(%d, %d, %+v, %+v, %+v) = %+v, but Add gives %+v", l.format, mode, a, one, c, got, sum)
					}
				}
			}
		}
	}
}

// TestPromiseFmaOfSpecials: the same where no number comes of it.
func TestPromiseFmaOfSpecials(t *testing.T) {
	for _, l := range wordLayouts {
		for _, nums := range tuples(fewNums(l), 2) {
			for _, mode := range allModes {
				if got, sum := impl.Fma(l.format, mode, nums[0], above("1", 0), nums[1]), impl.Add(l.format, mode, nums[0], nums[1]); got != sum {
					t.Errorf("Fma(%d, %d, %+v with 1) = %+v, but Add gives %+v", l.format, mode, nums, got, sum)
				}
			}
		}
	}
}

// TestFmaOfNoughtIsMul: a c of 0 with the product's sign and Exp changes nothing.
func TestFmaOfNoughtIsMul(t *testing.T) {
	for _, l := range wordLayouts {
		d := &draws{uint64(l.format) + 19}
		for range 10000 {
			a := drawnNum(d, l)
			b := drawnFactor(d, l, a)
			c := finite(a.Neg != b.Neg, "0", kept(a.Exp+b.Exp, l.least, l.greatest))
			for _, mode := range allModes {
				got, product := impl.Fma(l.format, mode, a, b, c), impl.Mul(l.format, mode, a, b)
				if got.Num.Kind != product.Num.Kind || got.Flags != product.Flags || compareNums(t, got.Num, product.Num) != 0 || got.Num.Neg != product.Num.Neg {
					t.Fatalf("Fma(%d, %d, %+v, %+v, %+v) = %+v, but Mul gives %+v", l.format, mode, a, b, c, got, product)
				}
			}
		}
	}
}

// TestScaleIsMul: by a power of ten that the format has.
func TestScaleIsMul(t *testing.T) {
	for _, l := range wordLayouts {
		d := &draws{uint64(l.format) + 20}
		for range 10000 {
			a, n := drawnNum(d, l), d.within(l.least, l.greatest)
			for _, mode := range allModes {
				if got, product := impl.Scale(l.format, mode, a, n), impl.Mul(l.format, mode, a, above("1", n)); got != product {
					t.Fatalf("Scale(%d, %d, %+v, %d) = %+v, but Mul gives %+v", l.format, mode, a, n, got, product)
				}
			}
		}
	}
}

// TestSumsPromise is promise 12, held against values alone: a result is right,
// exact just where nothing is flagged, and lies between those downward and
// upward, as the exact result does.
func TestSumsPromise(t *testing.T) {
	operations := sumOperations()
	for _, l := range wordLayouts {
		d := &draws{uint64(l.format) + 21}
		for range 2500 {
			a := drawnNum(d, l)
			b, factor := drawnBeside(d, l, a), drawnFactor(d, l, a)
			c, n := drawnBeside(d, l, exactProduct(t, a, factor)), d.within(-20000, 20000)
			product := exactOf(t, a).times(exactOf(t, factor))
			checkBetween(t, l, operations[0], []impl.Num{a, b}, exactOf(t, a).plus(exactOf(t, b)))
			checkBetween(t, l, operations[1], []impl.Num{a, b}, exactOf(t, a).plus(exactOf(t, turned(b))))
			checkBetween(t, l, operations[2], []impl.Num{a, factor}, product)
			checkBetween(t, l, operations[3], []impl.Num{a, factor, c}, product.plus(exactOf(t, c)))
			checkBetween(t, l, scaling(n), []impl.Num{a}, exactly{exactOf(t, a).units, a.Exp + n})
		}
	}
}

func checkBetween(t *testing.T, l wordLayout, o operation, nums []impl.Num, x exactly) {
	t.Helper()
	exact := finite(x.units.Sign() < 0, new(big.Int).Abs(x.units).String(), x.exp)
	against := func(n impl.Num) int { return compareNums(t, n, exact) }
	checkAround(t, l, o, nums, against)
	checkFlagged(t, l, o, nums, against)
}

// checkAround knows the exact result only by how a number stands against it:
// below 0 where it is less, above 0 where it is more.
func checkAround(t *testing.T, l wordLayout, o operation, nums []impl.Num, against func(n impl.Num) int) {
	t.Helper()
	down, up := o.call(l.format, impl.RmFloor, nums).Num, o.call(l.format, impl.RmCeil, nums).Num
	if against(down) > 0 || against(up) < 0 {
		t.Fatalf("%s(%d, %+v) is not from %+v to %+v", o.name, l.format, nums, down, up)
	}
	for _, mode := range allModes {
		got := o.call(l.format, mode, nums)
		if !impl.NumOk(l.format, got.Num) {
			t.Fatalf("%s(%d, %d, %+v) = %+v is not right", o.name, l.format, mode, nums, got)
		}
		if compareNums(t, down, got.Num) > 0 || compareNums(t, got.Num, up) > 0 {
			t.Fatalf("%s(%d, %d, %+v) = %+v is not from %+v to %+v", o.name, l.format, mode, nums, got, down, up)
		}
	}
}

// checkFlagged: something is flagged just where the result is not exact.
func checkFlagged(t *testing.T, l wordLayout, o operation, nums []impl.Num, against func(n impl.Num) int) {
	t.Helper()
	for _, mode := range allModes {
		got := o.call(l.format, mode, nums)
		if isExact := against(got.Num) == 0; isExact != (got.Flags == 0) {
			t.Fatalf("%s(%d, %d, %+v) = %+v, and that is exact: %v", o.name, l.format, mode, nums, got, isExact)
		}
	}
}

// wildNum is anything: parts of it may be right.
func wildNum(d *draws, l wordLayout) impl.Num {
	n := drawnNum(d, l)
	for range d.within(0, 2) {
		switch d.within(0, 3) {
		case 0:
			n.Kind = []int64{0, 1, 2, 3, 4, 5, int64(d.next())}[d.within(0, 6)]
		case 1:
			n.Neg = !n.Neg
		case 2:
			n.Exp = []int64{0, l.least - 1, l.greatest + 1, int64(d.next())}[d.within(0, 3)]
		case 3:
			n.Digits = []string{"", "0", "00", "1a", nines(l.digits + 1), strings.Repeat("7", 300), string([]byte{byte(d.next())})}[d.within(0, 6)]
		}
	}
	return n
}

// TestSumsAnswerAnything is promise 18: whatever comes, there is an answer, the
// same again, and the zero Result just where something is not as told.
func TestSumsAnswerAnything(t *testing.T) {
	for _, l := range wordLayouts {
		d := &draws{uint64(l.format) + 22}
		for range 60000 {
			nums := []impl.Num{wildNum(d, l), wildNum(d, l), wildNum(d, l)}
			format, mode := []int64{l.format, l.format, l.format, int64(d.next())}[d.within(0, 3)], d.within(0, 6)
			for _, o := range sumOperations() {
				fine := format == l.format && mode >= 1 && mode <= 5
				for _, n := range nums[:o.count] {
					fine = fine && impl.NumOk(format, n)
				}
				got := o.call(format, mode, nums[:o.count])
				if again := o.call(format, mode, nums[:o.count]); got != again {
					t.Fatalf("%s(%d, %d, %+v) = %+v, then %+v", o.name, format, mode, nums[:o.count], got, again)
				}
				if (got != impl.Result{}) != fine || fine && !impl.NumOk(format, got.Num) {
					t.Fatalf("%s(%d, %d, %+v) = %+v", o.name, format, mode, nums[:o.count], got)
				}
			}
		}
	}
}

// TestSumsAreNewMemory: digits that come out as they went in are still none of
// the bytes that were handed in, and those stay.
func TestSumsAreNewMemory(t *testing.T) {
	for _, l := range wordLayouts {
		for _, size := range []int{2, 7, l.digits} {
			digits, one, nought := mixedNatural(3, size), strings.Clone("1"), strings.Clone("0")
			before := strings.Clone(digits)
			a := above(digits, 0)
			for name, got := range map[string]impl.Result{
				"a + 0": impl.Add(l.format, impl.RmEven, a, above(nought, 0)), "0 + a": impl.Add(l.format, impl.RmEven, above(nought, 0), a),
				"a - 0": impl.Sub(l.format, impl.RmEven, a, above(nought, 0)), "a 1": impl.Mul(l.format, impl.RmEven, a, above(one, 0)),
				"a 1 + 0":  impl.Fma(l.format, impl.RmEven, a, above(one, 0), above(nought, 0)),
				"1 0 + a":  impl.Fma(l.format, impl.RmEven, above(one, 0), above(nought, 0), a),
				"a scaled": impl.Scale(l.format, impl.RmEven, a, 0),
			} {
				if got != plainly(above(before, 0)) || digits != before {
					t.Errorf("%d: %s = %+v, and a is %s", l.format, name, got, digits)
				}
				if unsafe.StringData(got.Num.Digits) == unsafe.StringData(digits) {
					t.Errorf("%d: %s shares the memory of a", l.format, name)
				}
			}
		}
	}
}

// TestSumsSideBySide: what one call throws is caught by none but itself.
func TestSumsSideBySide(t *testing.T) {
	l, done := wordLayouts[0], make(chan string)
	for range 8 {
		go func() {
			told := ""
			for range 400 {
				for _, o := range sumOperations() {
					for _, nums := range tuples(fewNums(l)[:5], o.count) {
						got := o.call(l.format, impl.RmEven, nums)
						if holdsKind(nums, impl.NkSignal) && got != notValid {
							told = o.name
						}
					}
				}
			}
			done <- told
		}()
	}
	for range 8 {
		if told := <-done; told != "" {
			t.Errorf("%s answers otherwise beside others", told)
		}
	}
}
