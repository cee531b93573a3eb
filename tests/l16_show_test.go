package tests

import (
	"fmt"
	"math/big"
	"strings"
	"testing"
	"unsafe"

	"loop.example/g00085/impl"
)

func checkShown(t *testing.T, n impl.Num, want string) {
	t.Helper()
	if got := impl.ShowNum(n); got != want {
		t.Errorf("ShowNum(%+v) = %q, not %q", n, got, want)
	}
}

// TestShowNumRefuses: what is not right in the wide format has no text.
func TestShowNumRefuses(t *testing.T) {
	for _, n := range wrongNums(wordLayouts[1]) {
		checkShown(t, n, "")
	}
}

// TestShowNumWide: what the small format refuses still has a text.
func TestShowNumWide(t *testing.T) {
	for _, c := range []struct {
		n    impl.Num
		want string
	}{
		{above(head(17), 0), "12345678901234567"},
		{above(nines(34), 0), nines(34)},
		{below("1", -399), "-1E-399"},
		{above("0", -399), "0E-399"},
		{above("1", 370), "1E+370"},
		{below("0", 370), "-0E+370"},
	} {
		if impl.NumOk(impl.Fm64, c.n) {
			t.Errorf("%+v is right in Fm64", c.n)
		}
		checkShown(t, c.n, c.want)
	}
}

func TestShowNumSpecials(t *testing.T) {
	checkShown(t, infinity(false), "Infinity")
	checkShown(t, infinity(true), "-Infinity")
	checkShown(t, quietNan, "NaN")
	checkShown(t, signalNan, "sNaN")
}

func TestShowNumFinite(t *testing.T) {
	long := head(34)
	for _, c := range []struct {
		digits string
		exp    int64
		want   string
	}{
		// With Exp 0 just the digits.
		{"0", 0, "0"}, {"7", 0, "7"}, {"10", 0, "10"}, {"123", 0, "123"}, {long, 0, long},
		// Above 0 always an E, with a point where there is more than one digit.
		{"7", 1, "7E+1"}, {"12", 3, "1.2E+4"}, {"10", 1, "1.0E+2"}, {"100", 9, "1.00E+11"}, {"5", 99, "5E+99"}, {"123", 4321, "1.23E+4323"},
		{"1", 6111, "1E+6111"}, {"12", 6111, "1.2E+6112"}, {long, 1, "1." + long[1:] + "E+34"}, {nines(34), 6111, "9." + nines(33) + "E+6144"},
		// Below 0 with fewer digits behind the point than there are, as many, and more.
		{"123", -1, "12.3"}, {"123", -2, "1.23"}, {"123", -3, "0.123"}, {"123", -4, "0.0123"}, {"5", -1, "0.5"}, {"5", -4, "0.0005"},
		{"100", -2, "1.00"}, {"100", -3, "0.100"}, {long, -1, long[:33] + "." + long[33:]}, {long, -33, "1." + long[1:]},
		{long, -34, "0." + long}, {long, -35, "0.0" + long},
		// The first digit in the last place that has no E, and one behind it.
		{"1", -6, "0.000001"}, {"1", -7, "1E-7"}, {"10", -7, "0.0000010"}, {"10", -8, "1.0E-7"}, {"99", -7, "0.0000099"}, {"99", -8, "9.9E-7"},
		{"123", -8, "0.00000123"}, {"123", -9, "1.23E-7"}, {long, -39, "0.00000" + long}, {long, -40, "1." + long[1:] + "E-7"},
		{"5", -8, "5E-8"}, {"5", -10, "5E-10"}, {"5", -100, "5E-100"},
		{"1", -6176, "1E-6176"}, {"12", -6176, "1.2E-6175"}, {long, -6176, "1." + long[1:] + "E-6143"},
		// Noughts tell their Exp, too.
		{"0", 1, "0E+1"}, {"0", 2, "0E+2"}, {"0", 6111, "0E+6111"}, {"0", -1, "0.0"}, {"0", -2, "0.00"}, {"0", -5, "0.00000"},
		{"0", -6, "0.000000"}, {"0", -7, "0E-7"}, {"0", -8, "0E-8"}, {"0", -6176, "0E-6176"},
	} {
		checkShown(t, above(c.digits, c.exp), c.want)
		checkShown(t, below(c.digits, c.exp), "-"+c.want)
	}
}

// shownAnew has the plain ones written as a fraction with as many places as the
// Exp asks for.
func shownAnew(t *testing.T, n impl.Num) string {
	t.Helper()
	sign := ""
	if n.Neg {
		sign = "-"
	}
	switch n.Kind {
	case impl.NkInf:
		return sign + "Infinity"
	case impl.NkNan:
		return "NaN"
	case impl.NkSignal:
		return "sNaN"
	}
	first := int64(len(n.Digits)) - 1 + n.Exp
	if n.Exp <= 0 && first >= -6 {
		places := int(-n.Exp)
		return sign + new(big.Rat).SetFrac(bigNatural(t, n.Digits), tenTo(places)).FloatString(places)
	}
	others := ""
	if len(n.Digits) > 1 {
		others = "." + n.Digits[1:]
	}
	return fmt.Sprintf("%s%c%sE%+d", sign, n.Digits[0], others, first)
}

func TestShowNumAll(t *testing.T) {
	for _, l := range wordLayouts {
		for _, n := range rightNums(l) {
			checkShown(t, n, shownAnew(t, n))
		}
	}
}

// TestShowNumEveryExp: how the texts go on from one Exp to the next.
func TestShowNumEveryExp(t *testing.T) {
	for _, digits := range []string{"0", "4", "40", head(7), head(34)} {
		for exp := int64(-60); exp <= 60; exp++ {
			for _, neg := range bothSigns {
				checkShown(t, finite(neg, digits, exp), shownAnew(t, finite(neg, digits, exp)))
			}
		}
	}
}

func TestShowNumDrawn(t *testing.T) {
	for _, l := range wordLayouts {
		d, plain := &draws{uint64(l.format) + 161}, 0
		for range 20000 {
			n := drawnAny(d, l)
			want := shownAnew(t, n)
			if got := impl.ShowNum(n); got != want {
				t.Fatalf("ShowNum(%+v) = %q, not %q", n, got, want)
			}
			if !strings.Contains(want, "E") {
				plain++
			}
		}
		if plain < 2000 || plain > 18000 {
			t.Errorf("%d: %d texts have no E", l.format, plain)
		}
	}
}

// TestShowNumAnswersAnything is promise 18: there is a text just of what is right
// in the wide format.
func TestShowNumAnswersAnything(t *testing.T) {
	for _, l := range wordLayouts {
		d := &draws{uint64(l.format) + 162}
		for range 30000 {
			n := wildNum(d, l)
			got := impl.ShowNum(n)
			if (got != "") != impl.NumOk(impl.Fm128, n) {
				t.Fatalf("ShowNum(%+v) = %q", n, got)
			}
			if again := impl.ShowNum(n); got != again {
				t.Fatalf("ShowNum(%+v) = %q, then %q", n, got, again)
			}
		}
	}
}

// TestShowNumIsNewMemory: a text that is the digits alone is none of their bytes.
func TestShowNumIsNewMemory(t *testing.T) {
	for _, size := range []int{2, 7, 34} {
		digits := mixedNatural(3, size)
		before := strings.Clone(digits)
		got := impl.ShowNum(above(digits, 0))
		if got != before || digits != before {
			t.Errorf("ShowNum of %s = %s, and the digits are %s", before, got, digits)
		}
		if unsafe.StringData(got) == unsafe.StringData(digits) {
			t.Errorf("ShowNum of %s shares the memory of the digits", before)
		}
	}
}
