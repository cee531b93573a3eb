package tests

import (
	"math"
	"math/big"
	"strconv"
	"strings"
	"testing"
	"unsafe"

	"loop.example/g00085/impl"
)

var allModes = []int64{impl.RmEven, impl.RmZero, impl.RmFloor, impl.RmCeil, impl.RmAway}

// noModes are near the five, or would be one of them in fewer bits.
var noModes = []int64{0, 6, -1, -2, -5, 7, 255, 257, 1<<32 | 1, 1<<16 | 5, math.MinInt64, math.MinInt64 | 1, math.MaxInt64}

var bothSigns = []bool{false, true}

func TestRoundConstants(t *testing.T) {
	got := [...]int64{
		impl.RmEven, impl.RmZero, impl.RmFloor, impl.RmCeil, impl.RmAway,
		impl.FlInvalid, impl.FlDivide, impl.FlOver, impl.FlUnder, impl.FlInexact, impl.MaxExp,
	}
	if want := [...]int64{1, 2, 3, 4, 5, 1, 2, 4, 8, 16, 200000}; got != want {
		t.Errorf("%v, not %v", got, want)
	}
}

func TestLimits(t *testing.T) {
	for _, l := range wordLayouts {
		digits, least, greatest := impl.Limits(l.format)
		if digits != int64(l.digits) || least != l.least || greatest != l.greatest {
			t.Errorf("Limits(%d) = %d, %d, %d", l.format, digits, least, greatest)
		}
	}
	for _, format := range noFormats {
		if digits, least, greatest := impl.Limits(format); digits != 0 || least != 0 || greatest != 0 {
			t.Errorf("Limits(%d) = %d, %d, %d", format, digits, least, greatest)
		}
	}
}

// roundCase is what digits become by each mode where nothing is below 0; below 0
// downward and upward change places.
type roundCase struct {
	digits                        string
	drop                          int64
	rest                          bool
	even, zero, floor, ceil, away string
	lost                          bool
}

func (c roundCase) wanted(mode int64, neg bool) string {
	switch {
	case mode == impl.RmEven:
		return c.even
	case mode == impl.RmZero:
		return c.zero
	case mode == impl.RmAway:
		return c.away
	case (mode == impl.RmFloor) != neg:
		return c.floor
	}
	return c.ceil
}

func checkRoundCases(t *testing.T, cases []roundCase) {
	t.Helper()
	for _, c := range cases {
		for _, mode := range allModes {
			for _, neg := range bothSigns {
				got, lost := impl.RoundDigits(mode, neg, c.digits, c.drop, c.rest)
				if want := c.wanted(mode, neg); got != want || lost != c.lost {
					t.Errorf("RoundDigits(%d, %v, %q, %d, %v) = %q, %v, not %q, %v",
						mode, neg, c.digits, c.drop, c.rest, got, lost, want, c.lost)
				}
			}
		}
	}
}

// TestRoundDigitsHalf: exactly a half, one below and one above it, with and
// without rest, and an even and an odd digit that is left.
func TestRoundDigitsHalf(t *testing.T) {
	checkRoundCases(t, []roundCase{
		{"1250", 2, false, "12", "12", "12", "13", "13", true},
		{"1250", 2, true, "13", "12", "12", "13", "13", true},
		{"1249", 2, false, "12", "12", "12", "13", "12", true},
		{"1249", 2, true, "12", "12", "12", "13", "12", true},
		{"1251", 2, false, "13", "12", "12", "13", "13", true},
		{"1251", 2, true, "13", "12", "12", "13", "13", true},
		{"1350", 2, false, "14", "13", "13", "14", "14", true},
		{"1350", 2, true, "14", "13", "13", "14", "14", true},
		{"1349", 2, false, "13", "13", "13", "14", "13", true},
		{"1349", 2, true, "13", "13", "13", "14", "13", true},
		{"1351", 2, false, "14", "13", "13", "14", "14", true},
		{"1351", 2, true, "14", "13", "13", "14", "14", true},
		{"25", 1, false, "2", "2", "2", "3", "3", true},
		{"35", 1, false, "4", "3", "3", "4", "4", true},
		{"105", 1, false, "10", "10", "10", "11", "11", true},
		{"24", 1, false, "2", "2", "2", "3", "2", true},
		{"24", 1, true, "2", "2", "2", "3", "2", true},
		{"26", 1, false, "3", "2", "2", "3", "3", true},
		{"205000001", 8, false, "2", "2", "2", "3", "2", true},
		{"250000001", 8, false, "3", "2", "2", "3", "3", true},
	})
}

// TestRoundDigitsNoughts: what is dropped is noughts alone, or nothing.
func TestRoundDigitsNoughts(t *testing.T) {
	checkRoundCases(t, []roundCase{
		{"1200", 2, false, "12", "12", "12", "12", "12", false},
		{"1200", 2, true, "12", "12", "12", "13", "12", true},
		{"1300", 2, true, "13", "13", "13", "14", "13", true},
		{"10", 1, false, "1", "1", "1", "1", "1", false},
		{"10", 1, true, "1", "1", "1", "2", "1", true},
		{"125", 0, false, "125", "125", "125", "125", "125", false},
		{"125", 0, true, "125", "125", "125", "126", "125", true},
		{"5", 0, true, "5", "5", "5", "6", "5", true},
		{"9", 0, true, "9", "9", "9", "10", "9", true},
		{"9", 0, false, "9", "9", "9", "9", "9", false},
		{"0", 0, false, "0", "0", "0", "0", "0", false},
		{"0", 1, false, "0", "0", "0", "0", "0", false},
		{"0", 200, false, "0", "0", "0", "0", "0", false},
		{"0", 0, true, "0", "0", "0", "1", "0", true},
		{"0", 1, true, "0", "0", "0", "1", "0", true},
		{"0", 200, true, "0", "0", "0", "1", "0", true},
		{tenPowerText(199), 199, false, "1", "1", "1", "1", "1", false},
		{tenPowerText(199), 199, true, "1", "1", "1", "2", "1", true},
	})
}

// TestRoundDigitsAll: as many digits go as there are, or more.
func TestRoundDigitsAll(t *testing.T) {
	half := "5" + strings.Repeat("0", 199)
	checkRoundCases(t, []roundCase{
		{"50", 2, false, "0", "0", "0", "1", "1", true},
		{"50", 2, true, "1", "0", "0", "1", "1", true},
		{"49", 2, false, "0", "0", "0", "1", "0", true},
		{"49", 2, true, "0", "0", "0", "1", "0", true},
		{"51", 2, false, "1", "0", "0", "1", "1", true},
		{"5", 1, false, "0", "0", "0", "1", "1", true},
		{"9", 1, false, "1", "0", "0", "1", "1", true},
		{"1", 1, false, "0", "0", "0", "1", "0", true},
		{"50", 3, false, "0", "0", "0", "1", "0", true},
		{"99", 3, false, "0", "0", "0", "1", "0", true},
		{"99", 3, true, "0", "0", "0", "1", "0", true},
		{"9", 2, true, "0", "0", "0", "1", "0", true},
		{"1", 200, false, "0", "0", "0", "1", "0", true},
		{"1", 200, true, "0", "0", "0", "1", "0", true},
		{nines(199), 200, true, "0", "0", "0", "1", "0", true},
		{half, 200, false, "0", "0", "0", "1", "1", true},
		{half, 200, true, "1", "0", "0", "1", "1", true},
		{"4" + nines(199), 200, true, "0", "0", "0", "1", "0", true},
		{"5" + strings.Repeat("0", 198) + "1", 200, false, "1", "0", "0", "1", "1", true},
		{nines(200), 200, false, "1", "0", "0", "1", "1", true},
	})
}

// TestRoundDigitsNines: a carry that runs through all digits.
func TestRoundDigitsNines(t *testing.T) {
	checkRoundCases(t, []roundCase{
		{"99", 1, false, "10", "9", "9", "10", "10", true},
		{"995", 1, false, "100", "99", "99", "100", "100", true},
		{"994", 1, false, "99", "99", "99", "100", "99", true},
		{"1995", 1, false, "200", "199", "199", "200", "200", true},
		{"999", 0, true, "999", "999", "999", "1000", "999", true},
		{"10999", 2, false, "110", "109", "109", "110", "110", true},
		{nines(200), 0, false, nines(200), nines(200), nines(200), nines(200), nines(200), false},
		{nines(200), 0, true, nines(200), nines(200), nines(200), tenPowerText(200), nines(200), true},
		{nines(200), 1, false, tenPowerText(199), nines(199), nines(199), tenPowerText(199), tenPowerText(199), true},
		{nines(200), 1, true, tenPowerText(199), nines(199), nines(199), tenPowerText(199), tenPowerText(199), true},
		{nines(199) + "8", 0, true, nines(199) + "8", nines(199) + "8", nines(199) + "8", nines(200), nines(199) + "8", true},
		{nines(200), 199, false, "10", "9", "9", "10", "10", true},
	})
}

func TestRoundDigitsRefuses(t *testing.T) {
	refused := func(mode int64, digits string, drop int64) {
		t.Helper()
		for _, neg := range bothSigns {
			for _, rest := range bothSigns {
				if got, lost := impl.RoundDigits(mode, neg, digits, drop, rest); got != "" || lost {
					t.Errorf("RoundDigits(%d, %v, %q, %d, %v) = %q, %v", mode, neg, digits, drop, rest, got, lost)
				}
			}
		}
	}
	right := []string{"0", "15", "1250", nines(200)}
	for _, mode := range noModes {
		for _, digits := range right {
			refused(mode, digits, 0)
			refused(mode, digits, 2)
		}
	}
	for _, mode := range allModes {
		for _, digits := range append(noNaturals(), nines(201), "00", "01", "") {
			refused(mode, digits, 0)
			refused(mode, digits, 1)
			refused(mode, digits, 200)
		}
		for _, drop := range []int64{
			-1, 201, -200, 256, 257, 1 << 32, 1<<32 | 1, -1 << 32, math.MinInt64, math.MinInt64 + 1, math.MaxInt64 - 1, math.MaxInt64,
		} {
			for _, digits := range right {
				refused(mode, digits, drop)
			}
		}
	}
	refused(0, "", -1)
}

// roundedAnew rounds the number itself, with its sign: over and under are four
// times as much as they stand for, so that a quarter can stand behind.
func roundedAnew(t *testing.T, mode int64, neg bool, digits string, drop int64, rest bool) (string, bool) {
	t.Helper()
	over, under := bigNatural(t, digits), tenTo(int(drop))
	over.Lsh(over, 2)
	under.Lsh(under, 2)
	if rest {
		over.Add(over, big.NewInt(1))
	}
	if neg {
		over.Neg(over)
	}
	below, left := new(big.Int).DivMod(over, under, new(big.Int))
	if left.Sign() == 0 {
		return below.Abs(below).String(), false
	}
	above := new(big.Int).Add(below, big.NewInt(1))
	nearer := left.Lsh(left, 1).Cmp(under)
	upward := false
	switch mode {
	case impl.RmZero:
		upward = neg
	case impl.RmCeil:
		upward = true
	case impl.RmEven:
		upward = nearer > 0 || nearer == 0 && above.Bit(0) == 0
	case impl.RmAway:
		upward = nearer > 0 || nearer == 0 && !neg
	}
	if upward {
		below = above
	}
	return below.Abs(below).String(), true
}

// checkRounded holds the answers of all modes and signs, with and without rest,
// against the number rounded anew.
func checkRounded(t *testing.T, digits string, drop int64) {
	t.Helper()
	for _, mode := range allModes {
		for _, neg := range bothSigns {
			for _, rest := range bothSigns {
				want, wantLost := roundedAnew(t, mode, neg, digits, drop, rest)
				got, lost := impl.RoundDigits(mode, neg, digits, drop, rest)
				if got != want || lost != wantLost {
					t.Fatalf("RoundDigits(%d, %v, %q, %d, %v) = %q, %v, not %q, %v",
						mode, neg, digits, drop, rest, got, lost, want, wantLost)
				}
			}
		}
	}
}

func TestRoundDigitsSmall(t *testing.T) {
	for number := range 1200 {
		for drop := range int64(6) {
			checkRounded(t, strconv.Itoa(number), drop)
		}
	}
}

// draws are numbers that hang on the seed alone.
type draws struct{ state uint64 }

func (d *draws) next() uint64 {
	d.state += 0x9e3779b97f4a7c15
	mixed := (d.state ^ d.state>>30) * 0xbf58476d1ce4e5b9
	mixed = (mixed ^ mixed>>27) * 0x94d049bb133111eb
	return mixed ^ mixed>>31
}

// within is from least to most, both among them.
func (d *draws) within(least, most int64) int64 {
	return least + int64(d.next()%uint64(most-least+1))
}

func (d *draws) either() bool {
	return d.next()%2 == 0
}

// natural has a head of any digits or nines, and behind it often what turns a
// rounding: noughts, a half, or just below or above one.
func (d *draws) natural(size int) string {
	text := make([]byte, size)
	for place := range text {
		text[place] = byte(d.within('0', '9'))
	}
	if d.within(0, 3) == 0 {
		copy(text, nines(size))
	}
	if text[0] == '0' {
		text[0] = '1'
	}
	behind := int(d.within(0, int64(size-1)))
	tails := []string{strings.Repeat("0", behind), "5" + strings.Repeat("0", behind), "4" + nines(behind), nines(behind)}
	copy(text[size-behind:], tails[d.within(0, 3)])
	if behind > 0 && d.within(0, 7) == 0 {
		text[size-1] = '1'
	}
	return string(text)
}

func TestRoundDigitsDrawn(t *testing.T) {
	d := &draws{12}
	for range 6000 {
		size := int(d.within(1, mostNatural))
		digits := d.natural(size)
		checkRounded(t, digits, d.within(0, mostNatural))
		checkRounded(t, digits, d.within(0, int64(size)))
	}
	for _, digits := range someNaturals() {
		size := int64(len(digits))
		for _, drop := range []int64{0, 1, 2, size / 2, size - 1, size, size + 1, 199, 200} {
			if drop <= mostNatural {
				checkRounded(t, digits, drop)
			}
		}
	}
}

// TestRoundDigitsBetween is promise 12 of digits: each mode lies between those
// downward and upward, and is the number itself where nothing was rounded off.
func TestRoundDigitsBetween(t *testing.T) {
	d := &draws{120}
	for range 3000 {
		digits, drop, rest := d.natural(int(d.within(1, 199))), d.within(0, mostNatural), d.either()
		down, _ := impl.RoundDigits(impl.RmFloor, false, digits, drop, rest)
		up, _ := impl.RoundDigits(impl.RmCeil, false, digits, drop, rest)
		for _, mode := range allModes {
			got, lost := impl.RoundDigits(mode, false, digits, drop, rest)
			if impl.NatCmp(down, got) > 0 || impl.NatCmp(got, up) > 0 {
				t.Fatalf("RoundDigits(%d, false, %s, %d, %v) = %s is not from %s to %s", mode, digits, drop, rest, got, down, up)
			}
			if !lost && bigNatural(t, digits).Cmp(new(big.Int).Mul(bigNatural(t, got), tenTo(int(drop)))) != 0 {
				t.Fatalf("RoundDigits(%d, false, %s, %d, %v) = %s is not exact", mode, digits, drop, rest, got)
			}
			if lost == (down == up) {
				t.Fatalf("RoundDigits(%d, false, %s, %d, %v): %v, but from %s to %s", mode, digits, drop, rest, lost, down, up)
			}
		}
	}
}

// TestRoundingIsNewMemory: digits that are left as they were are still none of
// the bytes that were handed in.
func TestRoundingIsNewMemory(t *testing.T) {
	for _, size := range []int{4, 16} {
		digits := mixedNatural(9, size)
		kept := strings.Clone(digits)
		same, _ := impl.RoundDigits(impl.RmEven, false, digits, 0, false)
		fewer, _ := impl.RoundDigits(impl.RmZero, false, digits, 1, false)
		got := impl.Finish(impl.Fm64, impl.RmEven, false, digits, 0, false, 0).Num.Digits
		if same != kept || fewer != kept[:size-1] || got != kept || digits != kept {
			t.Errorf("%s came as %s, %s, %s and is %s", kept, same, fewer, got, digits)
		}
		for _, text := range []string{same, fewer, got} {
			if unsafe.StringData(text) == unsafe.StringData(digits) {
				t.Errorf("an answer shares the memory of %s", digits)
			}
		}
	}
}
