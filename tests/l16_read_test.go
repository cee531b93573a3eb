package tests

import (
	"strconv"
	"strings"
	"testing"

	"loop.example/g00085/impl"
)

// textSigns are what may stand ahead of a number, and whether it is below 0.
var textSigns = map[string]bool{"": false, "+": false, "-": true}

func checkRead(t *testing.T, format, mode int64, text string, want impl.Result) {
	t.Helper()
	if got, is := impl.ReadNum(format, mode, text); !is || got != want {
		t.Errorf("ReadNum(%d, %d, %q) = %+v, %v, not %+v", format, mode, text, got, is, want)
	}
}

// checkReadPlainly is of texts for which no mode rounds anything.
func checkReadPlainly(t *testing.T, format int64, text string, want impl.Num) {
	t.Helper()
	for _, mode := range allModes {
		checkRead(t, format, mode, text, plainly(want))
	}
}

func refusesRead(t *testing.T, format, mode int64, text string) {
	t.Helper()
	if got, is := impl.ReadNum(format, mode, text); is || got != (impl.Result{}) {
		t.Errorf("ReadNum(%d, %d, %q) = %+v, %v", format, mode, text, got, is)
	}
}

func refusesText(t *testing.T, text string) {
	t.Helper()
	for _, l := range wordLayouts {
		for _, mode := range allModes {
			refusesRead(t, l.format, mode, text)
		}
	}
}

// someTexts are of all forms.
var someTexts = []string{"0", "-0.00", "7", "+12.5", "-.5E+3", "5.e-3", "1E99999", "-1e-99999", "Infinity", "-inf", "NaN", "+snan"}

func TestReadNumRefusesFormats(t *testing.T) {
	for _, format := range noFormats {
		for _, mode := range allModes {
			for _, text := range someTexts {
				refusesRead(t, format, mode, text)
			}
		}
	}
}

func TestReadNumRefusesModes(t *testing.T) {
	for _, mode := range noModes {
		for _, l := range wordLayouts {
			for _, text := range someTexts {
				refusesRead(t, l.format, mode, text)
			}
		}
	}
}

func TestReadNumReadsAll(t *testing.T) {
	for _, l := range wordLayouts {
		for _, mode := range allModes {
			for _, text := range someTexts {
				if got, is := impl.ReadNum(l.format, mode, text); !is || !impl.NumOk(l.format, got.Num) {
					t.Errorf("ReadNum(%d, %d, %q) = %+v, %v", l.format, mode, text, got, is)
				}
			}
		}
	}
}

func TestReadNumRefusesTexts(t *testing.T) {
	for _, text := range []string{
		// Nothing, or nothing of what is asked for.
		"", "+", "-", ".", "+.", "-.", "E", "e", "E5", "e+5", "-E5", ".E5", "+.e-5", "..", "E+", "+E",
		// Too many signs and points, or where none may stand.
		"++7", "--7", "+-7", "-+7", "7+", "7-", "7+7", "7-7", "1..5", ".5.", "..5", "5..", "1.5.2", "1.+5", ".-5", "-.+5",
		// Nothing behind E, a sign alone, too much, or what no power has.
		"1E", "1e", "1.5E", ".5e", "1E+", "1e-", "1E++5", "1E+-5", "1e--5", "1E5+", "1E5-", "1E5E5", "1e5e", "1EE5", "1Ee5", "1E5.", "1E.5",
		"1E5.0", "1E+.", "1E000005", "1E123456", "1E-123456", "1e+000000", "0E100000", "1E99999999999999999999", "1E-00000000000000000001",
		// Kinds that are cut short, go on, or stand beside something.
		"I", "i", "In", "Infi", "Infin", "Infini", "Infinit", "Infinityy", "Infinite", "InfInf", "InfinityInf", "nity", "N", "Na", "an", "NaNN",
		"aN", "NaNaN", "s", "sN", "sNa", "ssNaN", "NaNs", "qNaN", "S NaN", "NaN1", "sNaN0", "NaN(1)", "Inf1", "1Inf", "Inf5", "0NaN", "5sNaN",
		"Infinity.", ".Infinity", "Inf.", ".NaN", "NaN.", "InfE5", "NaNE+5", "++Inf", "--NaN", "+-sNaN", "Inf+", "Infinity-", "NaN-", "sNaN+",
		"Inf NaN", "nil", "infinity\x00", "\x00inf", "nan\n",
		// Other ways of writing numbers.
		"0x10", "0b1", "1_000", "1,5", "1'000", "1p5", "1d5", "1D5", "1F", "#5", "$5", "5%", "1/2", "(5)", "1*5", "1e5f", "1^5",
	} {
		refusesText(t, text)
	}
}

// TestReadNumRefusesLetters: bytes that are no letter of ours, ahead of, among
// and behind what would be read.
func TestReadNumRefusesLetters(t *testing.T) {
	strangers := []string{
		" ", "  ", "\t", "\n", "\r", "\x00", "\x7f", "/", ":", ",", "_", "a", "x", "Z", "@", "[", "`", "{",
		"\x80", "\xb7", "\xff", "\xc3", "\xe2\x88", "\ufffd", "\ufeff", "\u00a0", "\u0660", "\u0661", "\uff11", "\uff0e", "\u2212", "\uff0b", "\u00b7", "\u00b2", "\U0001d7d7",
		"\u0130", "\u0131", "\u017f", "\u212a", "\uff25", "\u0435",
	}
	for _, stranger := range strangers {
		for _, text := range []string{"5", "-12.50", "1.5E+12", "Infinity", "+inf", "NaN", "sNaN"} {
			for place := range len(text) + 1 {
				refusesText(t, text[:place]+stranger+text[place:])
			}
		}
	}
}

// TestReadNumRefusesKin: letters that are our letters in other alphabets, or that
// become ours when they are made small or great.
func TestReadNumRefusesKin(t *testing.T) {
	for _, text := range []string{
		"\u017fNaN", "\u017fnan", "\u0130nf", "\u0131nf", "\u0130nfinity", "Inf\u0131nity", "Infin\u0131ty", "Infin\u0130ty", "\uff29nf", "\uff4eaN", "N\u0430N", "\u0399nf",
		"1\u0415" + "5", "1\uff25" + "5", "\u06f5", "5\u06f5", "1E\u0665", "\u22125", "\uff0d5", "1E\u22125", "1\u066b5", "\u00bd", "\u0661", "\u221e", "-\u221e", "I\xcenf", "\xcfNaN",
	} {
		refusesText(t, text)
	}
}

// TestReadNumEveryByte: of all texts of one byte the digits alone are read, and
// beside a digit there may be few.
func TestReadNumEveryByte(t *testing.T) {
	for b := range 256 {
		one := string([]byte{byte(b)})
		digit := b >= '0' && b <= '9'
		for text, want := range map[string]bool{
			one:              digit,
			one + "7":        digit || strings.Contains("+-.", one),
			"7" + one:        digit || one == ".",
			"7" + one + "7":  digit || strings.Contains(".Ee", one),
			"7E" + one:       digit,
			"7E" + one + "7": digit || strings.Contains("+-", one),
			"NaN" + one:      false,
			one + "NaN":      strings.Contains("+-sS", one),
			one + "Inf":      strings.Contains("+-", one),
			one + "nf":       strings.Contains("iI", one),
			"s" + one + "aN": strings.Contains("nN", one),
			"Infinit" + one:  strings.Contains("yY", one),
		} {
			if _, is := impl.ReadNum(impl.Fm64, impl.RmEven, text); is != want {
				t.Errorf("ReadNum(64, 1, %q) is read: %v", text, is)
			}
		}
	}
}

// casings are all ways of great and small letters.
func casings(word string) []string {
	ways := []string{""}
	for _, letter := range strings.Split(word, "") {
		longer := []string{}
		for _, way := range ways {
			longer = append(longer, way+strings.ToLower(letter), way+strings.ToUpper(letter))
		}
		ways = longer
	}
	return ways
}

// TestReadNumSpecials: a sign stays with an infinity and goes of a NaN.
func TestReadNumSpecials(t *testing.T) {
	for word, n := range map[string]impl.Num{"Infinity": infinity(false), "Inf": infinity(false), "NaN": quietNan, "sNaN": signalNan} {
		for _, text := range casings(word) {
			for sign, neg := range textSigns {
				want := n
				want.Neg = neg && n.Kind == impl.NkInf
				for _, l := range wordLayouts {
					checkReadPlainly(t, l.format, sign+text, want)
				}
			}
		}
	}
}

// TestReadNumForms: what each form stands for, where nothing is rounded.
func TestReadNumForms(t *testing.T) {
	for _, c := range []struct {
		text   string
		digits string
		exp    int64
	}{
		// The point behind, ahead of and among the digits.
		{"7", "7", 0}, {"7.", "7", 0}, {".7", "7", -1}, {"0.7", "7", -1}, {"12.5", "125", -1}, {"1.25", "125", -2}, {".125", "125", -3},
		{"125.", "125", 0}, {"1234567890", "1234567890", 0}, {"12345.67890", "1234567890", -5},
		// Noughts ahead tell nothing; those behind do.
		{"007", "7", 0}, {"0007.50", "750", -2}, {"00.07", "7", -2}, {".007", "7", -3}, {".0070", "70", -4}, {"700", "700", 0}, {"7.00", "700", -2},
		{"010", "10", 0}, {"00000000000000000000000000000000000000000000000007", "7", 0},
		{"00000000000000000000000000000000000000000000000000.7", "7", -1},
		// Noughts.
		{"0", "0", 0}, {"0.", "0", 0}, {".0", "0", -1}, {"0.0", "0", -1}, {"000", "0", 0}, {"00.000", "0", -3}, {"0E7", "0", 7}, {"0e-7", "0", -7},
		{"0.00E+1", "0", -1}, {".0e1", "0", 0}, {"0.E5", "0", 5}, {"000000000000000000000000000000000000000000", "0", 0},
		// Powers of ten with each sign and of 1 to 5 digits.
		{"1E5", "1", 5}, {"1e5", "1", 5}, {"1E+5", "1", 5}, {"1e+5", "1", 5}, {"1E-5", "1", -5}, {"1e-5", "1", -5}, {"1E0", "1", 0}, {"1E-0", "1", 0},
		{"1E+0", "1", 0}, {"1e05", "1", 5}, {"1E-005", "1", -5}, {"1e0005", "1", 5}, {"1E00005", "1", 5}, {"1E+00005", "1", 5}, {"1e-00005", "1", -5},
		{"1E00000", "1", 0}, {"1E12", "1", 12}, {"1E-123", "1", -123}, {"1E00123", "1", 123}, {"1E321", "1", 321},
		// Both of them.
		{"1.5E3", "15", 2}, {"1.50E3", "150", 1}, {".5E1", "5", 0}, {".5E-1", "5", -2}, {"5.E1", "5", 1}, {"5.e-1", "5", -1}, {"12.50e+2", "1250", 0},
		{"0012.50e-002", "1250", -4}, {"1.234E2", "1234", -1}, {"1.234E3", "1234", 0}, {"1.234E4", "1234", 1},
	} {
		for sign, neg := range textSigns {
			for _, l := range wordLayouts {
				checkReadPlainly(t, l.format, sign+c.text, finite(neg, c.digits, c.exp))
			}
		}
	}
}

// TestReadNumLongest: as many bytes as a natural may have digits are read, one
// more is refused, whatever they are.
func TestReadNumLongest(t *testing.T) {
	for _, c := range []struct {
		text   string
		digits string
		exp    int64
	}{
		{head(200), head(200), 0},
		{"." + head(199), head(199), -199},
		{head(199) + ".", head(199), 0},
		{head(100) + "." + nines(99), head(100) + nines(99), -99},
		{noughts(199) + "7", "7", 0},
		{"." + noughts(198) + "7", "7", -199},
		{noughts(200), "0", 0},
		{noughts(99) + "." + noughts(100), "0", -100},
		{"7" + noughts(199), "7" + noughts(199), 0},
		{"7." + noughts(198), "7" + noughts(198), -198},
		{noughts(193) + "7e-9999", "7", -9999},
		{head(193) + "E+99999", head(193), 99999},
	} {
		for _, l := range wordLayouts {
			for _, mode := range allModes {
				want := finishedAnew(t, l, finishing{mode, false, c.digits, c.exp, false, c.exp})
				checkRead(t, l.format, mode, c.text, want)
			}
		}
		if len(c.text) != mostNatural {
			t.Errorf("%q has %d bytes", c.text, len(c.text))
		}
		for _, longer := range []string{"0" + c.text, "+" + c.text, "-" + c.text} {
			refusesText(t, longer)
		}
	}
	for _, size := range []int{201, 202, 255, 256, 257, 456, 100000} {
		refusesText(t, nines(size))
		refusesText(t, noughts(size))
		refusesText(t, noughts(size-4)+"1E+5")
	}
}

// TestReadNumSignedLongest: a sign is a byte like others.
func TestReadNumSignedLongest(t *testing.T) {
	for sign, neg := range textSigns {
		digits := noughts(mostNatural-2) + "7"
		checkReadPlainly(t, impl.Fm64, sign+digits, finite(neg, "7", 0))
		if sign != "" {
			refusesText(t, sign+"0"+digits)
		}
	}
}

// readCase is a text without a sign, and what it is by each mode, above 0.
type readCase struct {
	text  string
	want  modeDigits
	exp   int64
	flags int64
}

// checkReadCases takes each case as it stands and, mirrored, below 0.
func checkReadCases(t *testing.T, l wordLayout, cases []readCase) {
	t.Helper()
	for _, c := range cases {
		for i, mode := range allModes {
			want := impl.Result{Num: above(c.want[i], c.exp), Flags: c.flags}
			checkRead(t, l.format, mode, c.text, want)
			checkRead(t, l.format, mode, "+"+c.text, want)
			want.Num = turned(want.Num)
			checkRead(t, l.format, otherWay(mode), "-"+c.text, want)
		}
	}
}

// TestReadNumRounds: fewer digits than the format has, as many, and more.
func TestReadNumRounds(t *testing.T) {
	for _, l := range wordLayouts {
		p, wide := l.digits, p64(l)
		even, odd := head(p), head(p-1)+"5"
		one := tenPowerText(p - 1)
		checkReadCases(t, l, []readCase{
			{head(p - 1), sameDigits(head(p - 1)), 0, 0},
			{even, sameDigits(even), 0, 0},
			{noughts(5) + even, sameDigits(even), 0, 0},
			{"." + even, sameDigits(even), -wide, 0},
			{"0.000" + even, sameDigits(even), -wide - 3, 0},
			// What is more is noughts, and goes without a flag.
			{even + "0", sameDigits(even), 1, 0},
			{even + "000", sameDigits(even), 3, 0},
			{even + ".000", sameDigits(even), 0, 0},
			{"1." + noughts(p), sameDigits(one), 1 - wide, 0},
			// Ties, to an even digit and to an odd one.
			{even + "5", modeDigits{even, even, even, bumped(even), bumped(even)}, 1, inexact},
			{even + ".5", modeDigits{even, even, even, bumped(even), bumped(even)}, 0, inexact},
			{even + ".500E7", modeDigits{even, even, even, bumped(even), bumped(even)}, 7, inexact},
			{odd + "5", modeDigits{bumped(odd), odd, odd, bumped(odd), bumped(odd)}, 1, inexact},
			{odd + "50000", modeDigits{bumped(odd), odd, odd, bumped(odd), bumped(odd)}, 5, inexact},
			// Beside a tie, and far from one.
			{even + "4999", modeDigits{even, even, even, bumped(even), even}, 4, inexact},
			{even + "5001", modeDigits{bumped(even), even, even, bumped(even), bumped(even)}, 4, inexact},
			{even + "0001", modeDigits{even, even, even, bumped(even), even}, 4, inexact},
			{even + "9999", modeDigits{bumped(even), even, even, bumped(even), bumped(even)}, 4, inexact},
			{odd + ".4999", modeDigits{odd, odd, odd, bumped(odd), odd}, 0, inexact},
			{odd + "." + noughts(100) + "1E-9", modeDigits{odd, odd, odd, bumped(odd), odd}, -9, inexact},
		})
		checkReadCarried(t, l)
	}
}

// checkReadCarried: digits that all are 9 become one digit more, and only where
// they are not cut.
func checkReadCarried(t *testing.T, l wordLayout) {
	t.Helper()
	text := nines(l.digits) + "5"
	for _, mode := range allModes {
		want := impl.Result{Num: above(tenPowerText(l.digits-1), 2), Flags: inexact}
		if mode == impl.RmZero || mode == impl.RmFloor {
			want.Num = above(nines(l.digits), 1)
		}
		checkRead(t, l.format, mode, text, want)
		want.Num = turned(want.Num)
		checkRead(t, l.format, otherWay(mode), "-"+text, want)
	}
}

// TestReadNumUnder: what lies below the least Exp.
func TestReadNumUnder(t *testing.T) {
	for _, l := range wordLayouts {
		for _, c := range []struct {
			digits string
			exp    int64
			want   modeDigits
			flags  int64
		}{
			{"1", l.least, sameDigits("1"), 0},
			{"10", l.least - 1, sameDigits("1"), 0},
			{"5000", l.least - 2, sameDigits("50"), 0},
			{"1", l.least - 1, modeDigits{"0", "0", "0", "1", "0"}, under},
			{"5", l.least - 1, modeDigits{"0", "0", "0", "1", "1"}, under},
			{"15", l.least - 1, modeDigits{"2", "1", "1", "2", "2"}, under},
			{"25", l.least - 1, modeDigits{"2", "2", "2", "3", "3"}, under},
			{"51", l.least - 2, modeDigits{"1", "0", "0", "1", "1"}, under},
			{"9", l.least - 5, modeDigits{"0", "0", "0", "1", "0"}, under},
			{"1", -99999, modeDigits{"0", "0", "0", "1", "0"}, under},
			{nines(100), -99999, modeDigits{"0", "0", "0", "1", "0"}, under},
		} {
			checkReadCases(t, l, []readCase{{c.digits + shownPower(c.exp), c.want, l.least, c.flags}})
		}
		farthest := readCase{"." + noughts(190) + "1E-99999", modeDigits{"0", "0", "0", "1", "0"}, l.least, under}
		checkReadCases(t, l, []readCase{farthest, {"0." + nines(180) + "e-99999", farthest.want, l.least, under}})
	}
}

// shownPower is E and the number.
func shownPower(exp int64) string {
	return "E" + strconv.FormatInt(exp, 10)
}

// TestReadNumOver: what lies above the greatest Exp has noughts put behind it, as
// far as there are digits for them.
func TestReadNumOver(t *testing.T) {
	for _, l := range wordLayouts {
		p, wide := l.digits, p64(l)
		checkReadCases(t, l, []readCase{
			{"1" + shownPower(l.greatest), sameDigits("1"), l.greatest, 0},
			{"1" + shownPower(l.greatest+1), sameDigits("10"), l.greatest, 0},
			{"12" + shownPower(l.greatest+2), sameDigits("1200"), l.greatest, 0},
			{"1" + shownPower(l.greatest+wide-1), sameDigits(tenPowerText(p - 1)), l.greatest, 0},
			{nines(p) + shownPower(l.greatest), sameDigits(nines(p)), l.greatest, 0},
			{"9." + nines(p-1) + shownPower(l.greatest+wide-1), sameDigits(nines(p)), l.greatest, 0},
			{"0." + noughts(99) + "1" + shownPower(l.greatest+101), sameDigits("10"), l.greatest, 0},
		})
		for _, text := range []string{
			"1" + shownPower(l.greatest+wide), "12" + shownPower(l.greatest+wide-1), nines(p) + shownPower(l.greatest+1), "1E99999", nines(193) + "E99999",
			nines(p) + ".9" + shownPower(l.greatest+1), "." + noughts(90) + "1" + shownPower(l.greatest+wide+91),
		} {
			checkReadOver(t, l, text)
		}
	}
}

func checkReadOver(t *testing.T, l wordLayout, text string) {
	t.Helper()
	for _, mode := range allModes {
		want := impl.Result{Num: infinity(false), Flags: over}
		if mode == impl.RmZero || mode == impl.RmFloor {
			want.Num = above(nines(l.digits), l.greatest)
		}
		checkRead(t, l.format, mode, text, want)
		want.Num = turned(want.Num)
		checkRead(t, l.format, otherWay(mode), "-"+text, want)
	}
}

// TestReadNumNoughts: their Exps are kept within the format's.
func TestReadNumNoughts(t *testing.T) {
	for _, l := range wordLayouts {
		for _, c := range []struct{ exp, want int64 }{
			{l.least, l.least}, {l.least - 1, l.least}, {l.least - 2, l.least}, {-99999, l.least}, {l.least + 1, l.least + 1},
			{l.greatest, l.greatest}, {l.greatest + 1, l.greatest}, {l.greatest + 2, l.greatest}, {99999, l.greatest}, {l.greatest - 1, l.greatest - 1},
		} {
			for sign, neg := range textSigns {
				for _, text := range []string{"0", "0.", "000"} {
					checkReadPlainly(t, l.format, sign+text+shownPower(c.exp), finite(neg, "0", c.want))
				}
			}
		}
		checkReadPlainly(t, l.format, "0."+noughts(180)+"E-99999", above("0", l.least))
		checkReadPlainly(t, l.format, "-."+noughts(180)+"E99999", below("0", l.greatest))
	}
}
