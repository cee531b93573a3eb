package tests

import (
	"math/big"
	"strings"
	"testing"
	"unsafe"

	"loop.example/g00085/impl"
)

// farPlaces are more than any quotient that ends has behind the point: what a
// format's digits make of twos and fives goes at most 112 places on.
const farPlaces = 200

// sticky has one digit more behind units of 10 to the exp: a 1 for all that goes
// on there.
func sticky(units *big.Int, left int, exp int64) exactly {
	behind := new(big.Int).Mul(units, big.NewInt(10))
	if left != 0 {
		behind.Add(behind, big.NewInt(1))
	}
	return exactly{behind, exp - 1}
}

// dividedAnew takes the quotient to places at which it has ended, if it does.
func dividedAnew(t *testing.T, l wordLayout, mode int64, a, b impl.Num) impl.Result {
	t.Helper()
	over := new(big.Int).Mul(bigNatural(t, a.Digits), tenTo(farPlaces))
	quotient, left := over.QuoRem(over, bigNatural(t, b.Digits), new(big.Int))
	x := sticky(quotient, left.Sign(), a.Exp-b.Exp-farPlaces)
	neg := a.Neg != b.Neg
	if neg {
		x.units.Neg(x.units)
	}
	return roundedOnce(t, l, mode, x, neg, a.Exp-b.Exp)
}

// downHalf is half of it rounded down.
func downHalf(exp int64) int64 {
	if exp < 0 && exp%2 != 0 {
		return exp/2 - 1
	}
	return exp / 2
}

func rootedAnew(t *testing.T, l wordLayout, mode int64, a impl.Num) impl.Result {
	t.Helper()
	even := 2 * downHalf(a.Exp)
	square := new(big.Int).Mul(bigNatural(t, a.Digits), tenTo(int(a.Exp-even)+2*farPlaces))
	root := new(big.Int).Sqrt(square)
	left := square.Sub(square, new(big.Int).Mul(root, root)).Sign()
	return roundedOnce(t, l, mode, sticky(root, left, even/2-farPlaces), a.Neg, downHalf(a.Exp))
}

// quantizedAnew tells how many units of b's Exp a is, rounded.
func quantizedAnew(t *testing.T, l wordLayout, mode int64, a, b impl.Num) impl.Result {
	t.Helper()
	digits, lost := bigNatural(t, a.Digits).String(), false
	if a.Exp >= b.Exp {
		digits = bigNatural(t, digits+noughts(int(a.Exp-b.Exp))).String()
	} else {
		digits, lost = roundedAnew(t, mode, a.Neg, a.Digits, b.Exp-a.Exp, false)
	}
	if len(digits) > l.digits {
		return notValid
	}
	result := plainly(finite(a.Neg, digits, b.Exp))
	if lost {
		result.Flags = inexact
	}
	return result
}

// remainderAnew tries the two whole numbers around the quotient, with its sign.
func remainderAnew(t *testing.T, a, b impl.Num) impl.Result {
	t.Helper()
	exp := min(a.Exp, b.Exp)
	if max(a.Exp, b.Exp)-exp > 160 {
		return notValid
	}
	x, y := unitsOf(t, a, exp), unitsOf(t, b, exp)
	quotient := new(big.Rat).SetFrac(x, y)
	lower := new(big.Int).Div(quotient.Num(), quotient.Denom())
	upper := new(big.Int).Add(lower, big.NewInt(1))
	fromLower := new(big.Int).Sub(x, new(big.Int).Mul(lower, y))
	fromUpper := new(big.Int).Sub(x, new(big.Int).Mul(upper, y))
	left := fromLower
	if nearer := fromLower.CmpAbs(fromUpper); nearer > 0 || nearer == 0 && upper.Bit(0) == 0 {
		left = fromUpper
	}
	neg := left.Sign() < 0 || left.Sign() == 0 && a.Neg
	return plainly(finite(neg, new(big.Int).Abs(left).String(), exp))
}

func wholeAnew(t *testing.T, mode int64, a impl.Num) impl.Result {
	t.Helper()
	if a.Exp >= 0 {
		return plainly(a)
	}
	digits, _ := roundedAnew(t, mode, a.Neg, a.Digits, -a.Exp, false)
	return plainly(finite(a.Neg, digits, 0))
}

// drawnNatural has so many digits, and is no nought.
func drawnNatural(d *draws, size int64) string {
	return d.natural(int(size))
}

// divisorDigits are often those by which a quotient ends.
func divisorDigits(d *draws, l wordLayout) string {
	twos, fives := int64(53), int64(22)
	if l.format == impl.Fm128 {
		twos, fives = 112, 48
	}
	texts := []string{
		powerText(2, d.within(0, twos)), powerText(5, d.within(0, fives)), drawnNatural(d, d.within(1, 3)),
		drawnNatural(d, d.within(1, p64(l))), drawnNatural(d, p64(l)), nines(int(d.within(1, p64(l)))),
	}
	return texts[d.within(0, int64(len(texts)-1))]
}

// drawnRatio are two numbers, the second no nought; the first is sometimes a
// multiple of it. The quotient's Exp is often one at which something turns.
func drawnRatio(d *draws, l wordLayout) (impl.Num, impl.Num) {
	over, under := drawnDigits(d, l), divisorDigits(d, l)
	if d.within(0, 3) == 0 {
		size := d.within(1, p64(l)-1)
		under = drawnNatural(d, size)
		factor, _ := new(big.Int).SetString(drawnNatural(d, p64(l)-size), 10)
		product, _ := new(big.Int).SetString(under, 10)
		over = product.Mul(product, factor).String()
	}
	gap := int64(len(over) - len(under))
	exps := []int64{
		d.within(-20, 20), l.least - gap + d.within(-3, 3), l.least - gap + p64(l) + d.within(-3, 3), l.least - d.within(0, 260),
		l.greatest - gap + p64(l) + d.within(-3, 3), l.greatest + d.within(-3, p64(l)), d.within(l.least, l.greatest),
	}
	wanted := exps[d.within(0, int64(len(exps)-1))]
	exp := d.within(l.least, l.greatest)
	exp = kept(exp, l.least+wanted, l.greatest+wanted)
	exp = kept(exp, l.least, l.greatest)
	return finite(d.either(), over, exp), finite(d.either(), under, kept(exp-wanted, l.least, l.greatest))
}

func TestDivDrawn(t *testing.T) {
	div := ratioOperations()["Div"]
	for _, l := range wordLayouts {
		d, told := &draws{uint64(l.format) + 140}, map[int64]int{}
		for range 8000 {
			a, b := drawnRatio(d, l)
			for _, mode := range allModes {
				want := dividedAnew(t, l, mode, a, b)
				checkOnce(t, l, div, mode, []impl.Num{a, b}, want)
				told[want.Flags]++
			}
		}
		// What is drawn comes to each kind of result often enough.
		for _, flags := range []int64{0, inexact, under, over} {
			if told[flags] < 1000 {
				t.Errorf("%d: %d quotients have the flags %d", l.format, told[flags], flags)
			}
		}
	}
}

// drawnSquare is not below 0, and often a square or next to one.
func drawnSquare(d *draws, l wordLayout) impl.Num {
	exp := []int64{d.within(-20, 20), d.within(l.least, l.least+9), d.within(l.greatest-9, l.greatest), d.within(l.least, l.greatest)}[d.within(0, 3)]
	digits := drawnNatural(d, d.within(1, p64(l)))
	if d.within(0, 2) == 0 {
		root, _ := new(big.Int).SetString(drawnNatural(d, d.within(1, p64(l)/2)), 10)
		square := root.Mul(root, root)
		square.Add(square, big.NewInt(d.within(-1, 1)))
		digits = square.String()
	}
	return above(digits, exp)
}

func TestSqrtDrawn(t *testing.T) {
	sqrt := ratioOperations()["Sqrt"]
	for _, l := range wordLayouts {
		d := &draws{uint64(l.format) + 141}
		for range 8000 {
			a := drawnSquare(d, l)
			for _, mode := range allModes {
				checkOnce(t, l, sqrt, mode, []impl.Num{a}, rootedAnew(t, l, mode, a))
			}
		}
	}
}

// drawnQuantum has an Exp at which digits of a go or noughts come, as far as the
// format lets them.
func drawnQuantum(d *draws, l wordLayout, a impl.Num) impl.Num {
	size := int64(len(a.Digits))
	exps := []int64{
		a.Exp + d.within(0, size+2), a.Exp + size - p64(l) + d.within(-2, 2), a.Exp + d.within(-p64(l), p64(l)),
		a.Exp + d.within(190, 210), d.within(l.least, l.greatest),
	}
	return finite(d.either(), drawnDigits(d, l), kept(exps[d.within(0, 4)], l.least, l.greatest))
}

func TestQuantizeDrawn(t *testing.T) {
	quantize := ratioOperations()["Quantize"]
	for _, l := range wordLayouts {
		d := &draws{uint64(l.format) + 142}
		for range 15000 {
			a := drawnNum(d, l)
			b := drawnQuantum(d, l, a)
			for _, mode := range allModes {
				checkOnce(t, l, quantize, mode, []impl.Num{a, b}, quantizedAnew(t, l, mode, a, b))
			}
		}
	}
}

// drawnModulus is no nought, and mostly no farther from a than is let in. Often
// a is an odd number of halves of it.
func drawnModulus(d *draws, l wordLayout) (impl.Num, impl.Num) {
	a, under := drawnNum(d, l), divisorDigits(d, l)
	if d.within(0, 2) == 0 {
		size := d.within(1, p64(l)-1)
		half, _ := new(big.Int).SetString(drawnNatural(d, size), 10)
		odd := new(big.Int).SetInt64(2*d.within(0, 4) + 1)
		if twice := new(big.Int).Lsh(half, 1).String(); len(odd.Mul(odd, half).String()) <= l.digits {
			a.Digits, under = odd.String(), twice
			return a, finite(d.either(), under, a.Exp)
		}
	}
	exps := []int64{a.Exp, a.Exp + d.within(-3, 3), a.Exp + d.within(-160, 160), a.Exp + d.within(158, 162), a.Exp - d.within(158, 162)}
	return a, finite(d.either(), under, kept(exps[d.within(0, 4)], l.least, l.greatest))
}

func TestRemainderDrawn(t *testing.T) {
	remainder := ratioOperations()[remainderName]
	for _, l := range wordLayouts {
		d := &draws{uint64(l.format) + 143}
		for range 15000 {
			a, b := drawnModulus(d, l)
			checkOnce(t, l, remainder, 0, []impl.Num{a, b}, remainderAnew(t, a, b))
		}
	}
}

func TestWholeDrawn(t *testing.T) {
	whole := ratioOperations()["Whole"]
	for _, l := range wordLayouts {
		d := &draws{uint64(l.format) + 144}
		for range 15000 {
			a := drawnNum(d, l)
			if d.either() {
				a.Exp = -d.within(0, int64(len(a.Digits))+2)
			}
			for _, mode := range allModes {
				checkOnce(t, l, whole, mode, []impl.Num{a}, wholeAnew(t, mode, a))
			}
		}
	}
}

// TestPromiseDivBack is promise 14: what Div gives exactly, times the divisor,
// is the dividend; what it does not is something else.
func TestPromiseDivBack(t *testing.T) {
	for _, l := range wordLayouts {
		d, exact := &draws{uint64(l.format) + 145}, 0
		for range 8000 {
			a, b := drawnRatio(d, l)
			for _, mode := range allModes {
				got := impl.Div(l.format, mode, a, b)
				if got.Num.Kind != impl.NkFinite {
					continue
				}
				back := compareNums(t, exactProduct(t, got.Num, b), a) == 0
				if isExact := got.Flags&inexact == 0; back != isExact {
					t.Fatalf("Div(%d, %d, %+v, %+v) = %+v, and times b that is a: %v", l.format, mode, a, b, got, back)
				}
				if back {
					exact++
				}
			}
		}
		if exact < 8000 {
			t.Errorf("%d: only %d quotients were exact", l.format, exact)
		}
	}
}

// TestPromiseDivOfProducts: a product that fits, divided, gives the factor.
func TestPromiseDivOfProducts(t *testing.T) {
	for _, l := range wordLayouts {
		d := &draws{uint64(l.format) + 146}
		for range 8000 {
			size := d.within(1, p64(l)-1)
			factor := finite(d.either(), drawnNatural(d, size), d.within(-150, 150))
			b := finite(d.either(), drawnNatural(d, p64(l)-size), d.within(-150, 150))
			a := impl.Mul(l.format, impl.RmEven, factor, b)
			if a.Flags != 0 {
				t.Fatalf("%d: %+v times %+v is %+v", l.format, factor, b, a)
			}
			for _, mode := range allModes {
				got := impl.Div(l.format, mode, a.Num, b)
				if got.Flags != 0 || compareNums(t, got.Num, factor) != 0 {
					t.Fatalf("Div(%d, %d, %+v, %+v) = %+v, not %+v", l.format, mode, a.Num, b, got, factor)
				}
			}
		}
	}
}

// TestPromiseSqrtOfSquares: the root of a square that fits, however it is told,
// is the root, without flags.
func TestPromiseSqrtOfSquares(t *testing.T) {
	for _, l := range wordLayouts {
		d := &draws{uint64(l.format) + 147}
		for range 8000 {
			root := above(drawnNatural(d, d.within(1, p64(l)/2)), d.within(l.least/2, l.greatest/2))
			square := exactProduct(t, root, root)
			// Noughts behind it lead to odd Exps and to Exps far below.
			noughtsBehind := min(d.within(0, p64(l)-int64(len(square.Digits))), square.Exp-l.least)
			square = above(square.Digits+noughts(int(noughtsBehind)), square.Exp-noughtsBehind)
			for _, mode := range allModes {
				got := impl.Sqrt(l.format, mode, square)
				if got.Flags != 0 || compareNums(t, got.Num, root) != 0 {
					t.Fatalf("Sqrt(%d, %d, %+v) = %+v, not %+v", l.format, mode, square, got, root)
				}
			}
		}
	}
}

// TestRatiosPromise is promise 12, held against values alone: how a number
// stands against a quotient is told by what it is times the divisor, and against
// a root by its square.
func TestRatiosPromise(t *testing.T) {
	operations := ratioOperations()
	for _, l := range wordLayouts {
		d := &draws{uint64(l.format) + 148}
		for range 1500 {
			a, b := drawnRatio(d, l)
			againstQuotient := func(n impl.Num) int { return againstQuotient(t, n, a, b) }
			checkAround(t, l, operations["Div"], []impl.Num{a, b}, againstQuotient)
			checkFlagged(t, l, operations["Div"], []impl.Num{a, b}, againstQuotient)
			square := drawnSquare(d, l)
			againstRoot := func(n impl.Num) int { return compareNums(t, exactProduct(t, n, n), square) }
			checkAround(t, l, operations["Sqrt"], []impl.Num{square}, againstRoot)
			checkFlagged(t, l, operations["Sqrt"], []impl.Num{square}, againstRoot)
			n := drawnNum(d, l)
			quantum := drawnQuantum(d, l, n)
			againstItself := func(other impl.Num) int { return compareNums(t, other, n) }
			checkAround(t, l, operations["Whole"], []impl.Num{n}, againstItself)
			if impl.Quantize(l.format, impl.RmEven, n, quantum) != notValid {
				checkAround(t, l, operations["Quantize"], []impl.Num{n, quantum}, againstItself)
				checkFlagged(t, l, operations["Quantize"], []impl.Num{n, quantum}, againstItself)
			}
		}
	}
}

// againstQuotient holds n against a by b.
func againstQuotient(t *testing.T, n, a, b impl.Num) int {
	t.Helper()
	if n.Kind == impl.NkInf {
		return endOf(n)
	}
	stands := compareNums(t, exactProduct(t, n, b), a)
	if b.Neg {
		return -stands
	}
	return stands
}

// TestPromiseRemainder: it lies at most half of b away from 0, and what it lacks
// to a is a whole number of b's.
func TestPromiseRemainder(t *testing.T) {
	for _, l := range wordLayouts {
		d := &draws{uint64(l.format) + 149}
		for range 8000 {
			a, b := drawnModulus(d, l)
			got := impl.Remainder(l.format, a, b)
			if got == notValid {
				continue
			}
			exp := min(a.Exp, b.Exp)
			left, x, y := unitsOf(t, got.Num, exp), unitsOf(t, a, exp), unitsOf(t, b, exp)
			if new(big.Int).Lsh(left, 1).CmpAbs(y) > 0 || x.Sub(x, left).Rem(x, y).Sign() != 0 || got.Num.Exp != exp || got.Flags != 0 {
				t.Fatalf("Remainder(%d, %+v, %+v) = %+v", l.format, a, b, got)
			}
		}
	}
}

// TestRatiosAnswerAnything is promise 18: whatever comes, there is an answer, the
// same again, and the zero Result just where something is not as told.
func TestRatiosAnswerAnything(t *testing.T) {
	for _, l := range wordLayouts {
		d := &draws{uint64(l.format) + 150}
		for range 30000 {
			nums := []impl.Num{wildNum(d, l), wildNum(d, l)}
			format, mode := []int64{l.format, l.format, l.format, int64(d.next())}[d.within(0, 3)], d.within(0, 6)
			for name, o := range ratioOperations() {
				fine := format == l.format && (mode >= 1 && mode <= 5 || name == remainderName)
				for _, n := range nums[:o.count] {
					fine = fine && impl.NumOk(format, n)
				}
				got := o.call(format, mode, nums[:o.count])
				if again := o.call(format, mode, nums[:o.count]); got != again {
					t.Fatalf("%s(%d, %d, %+v) = %+v, then %+v", name, format, mode, nums[:o.count], got, again)
				}
				if (got != impl.Result{}) != fine || fine && !impl.NumOk(format, got.Num) {
					t.Fatalf("%s(%d, %d, %+v) = %+v", name, format, mode, nums[:o.count], got)
				}
			}
		}
	}
}

// TestRatiosAreNewMemory: digits that come out as they went in are still none of
// the bytes that were handed in, and those stay.
func TestRatiosAreNewMemory(t *testing.T) {
	for _, l := range wordLayouts {
		for _, size := range []int{2, 7, l.digits} {
			digits, one := mixedNatural(3, size), strings.Clone("1")
			before := strings.Clone(digits)
			a := above(digits, 0)
			for name, got := range map[string]impl.Result{
				"a by 1":                 impl.Div(l.format, impl.RmEven, a, above(one, 0)),
				"a with its Exp":         impl.Quantize(l.format, impl.RmEven, a, above(one, 0)),
				"a less no b":            impl.Remainder(l.format, a, above(one, 150)),
				"a less no infinity":     impl.Remainder(l.format, a, infinity(true)),
				"a whole":                impl.Whole(l.format, impl.RmEven, a),
				"a with its own quantum": impl.Quantize(l.format, impl.RmEven, a, a),
			} {
				if got != plainly(above(before, 0)) || digits != before {
					t.Errorf("%d: %s = %+v, and a is %s", l.format, name, got, digits)
				}
				if unsafe.StringData(got.Num.Digits) == unsafe.StringData(digits) {
					t.Errorf("%d: %s shares the memory of a", l.format, name)
				}
			}
		}
	}
}
