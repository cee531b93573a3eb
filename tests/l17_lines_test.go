package tests

import (
	"strings"
	"testing"

	"loop.example/g00085/impl"
)

// benchCounts are how many words stand behind each first word of the table.
var benchCounts = map[string]int{
	"format": 1, "mode": 1, "add": 2, "sub": 2, "mul": 2, "div": 2, "fma": 3, "sqrt": 1, "quantize": 2, "next": 1, "compare": 2, "word": 1, "flags": 0,
}

// noNums are none that ReadNum takes.
var noNums = []string{
	"", ".", "+", "-", "x", "e5", "1e", "1e+", "--1", "+-1", "1.2.3", "1E100000", "1E1.0", "1,5", "0x1", "1_0", "infin", "nans", "NaN1", "sinf", "1-", "1\t", "\t1", "1\r", "\u0661", "1\x00", "\xff",
	strings.Repeat("1", 201), "0." + strings.Repeat("0", 199), "add", "flags",
}

func TestBenchNoLines(t *testing.T) {
	for _, text := range []string{"", "\n", "\n\n", "\n\n\n\n\n"} {
		checkBenchText(t, text, "")
	}
}

func TestBenchLineEnds(t *testing.T) {
	for _, c := range []struct{ text, want string }{
		{"flags", "0\n"}, {"flags\n", "0\n"}, {"flags\n\n", "0\n"}, {"\nflags", "0\n"}, {"\n\nflags\n\n\n", "0\n"},
		{"add 1 1\nflags", "2\n0\n"}, {"add 1 1\nflags\n", "2\n0\n"}, {"add 1 1\n\n\nflags\n\nx", "2\n0\nerror 1\n"},
		{"x", "error 1\n"}, {"x\n", "error 1\n"}, {"\nx\n\n", "error 1\n"}, {"mode 1", "ok\n"}, {"mode 9", "error 2\n"},
	} {
		checkBenchText(t, c.text, c.want)
	}
}

// TestBenchMaxLines: as many lines as may be, and one more, of which those without
// a byte stand ahead of the others, among them or behind them.
func TestBenchMaxLines(t *testing.T) {
	for _, blank := range []int{0, 1, 2, 100, 198, 199} {
		told, empty := strings.Repeat("flags\n", 200-blank), strings.Repeat("\n", blank)
		want := strings.Repeat("0\n", 200-blank)
		half := len("flags\n") * ((200 - blank) / 2)
		for _, text := range []string{empty + told, told + empty, told[:half] + empty + told[half:]} {
			checkBenchText(t, text, want)
			checkBenchText(t, text+"\n", "")
			checkBenchText(t, "\n"+text, "")
			checkBenchText(t, text+"flags\n", "")
			checkBenchText(t, text+"flags", "")
			checkBenchText(t, text+" ", "")
			checkBenchText(t, text+"x", "")
		}
		bare := strings.TrimSuffix(empty+told, "\n")
		checkBenchText(t, bare, want)
		checkBenchText(t, "\n"+bare, "")
		checkBenchText(t, "flags\n"+bare, "")
	}
	checkBenchText(t, strings.Repeat("\n", 199)+"flags", "0\n")
	checkBenchText(t, strings.Repeat("\n", 200)+"flags", "")
	checkBenchText(t, strings.Repeat("\n", 200), "")
	checkBenchText(t, strings.Repeat("\n", 20000), "")
}

// TestBenchMaxText: as many bytes as may be, and one more, in one line and in as
// many as may be.
func TestBenchMaxText(t *testing.T) {
	long := strings.Repeat("x", 19999)
	checkBenchText(t, long+"\n", "error 1\n")
	checkBenchText(t, long+"x", "error 1\n")
	checkBenchText(t, long+"x\n", "")
	checkBenchText(t, long+"xx", "")
	checkBenchText(t, long+"\nx", "")
	checkBenchText(t, "\n"+long, "error 1\n")
	checkBenchText(t, "\n\n"+long, "")
	checkBenchText(t, strings.Repeat(long, 50), "")
	// Letters of two bytes count as two.
	checkBenchText(t, strings.Repeat("é", 10000), "error 1\n")
	checkBenchText(t, strings.Repeat("é", 10000)+"x", "")
	line := "add " + strings.Repeat("0", 92) + "1 2\n"
	full := strings.Repeat(line, 200)
	if len(line) != 100 || len(full) != impl.MaxText {
		t.Fatalf("%d bytes, %d in all", len(line), len(full))
	}
	checkBenchText(t, full, strings.Repeat("3\n", 200))
	checkBenchText(t, full[:len(full)-1]+"0", strings.Repeat("3\n", 199)+"21\n")
	checkBenchText(t, full[:len(full)-1]+"00", "")
	checkBenchText(t, "flags\n"+full, "")
	blanks := strings.Repeat(" ", 19994)
	checkBenchText(t, "flags\n"+blanks, "0\nerror 1\n")
	checkBenchText(t, "flags\n"+blanks+" ", "")
}

func TestBenchWords(t *testing.T) {
	for _, c := range []benchLine{
		// A first word without a byte.
		{" ", notALine}, {"  ", notALine}, {"    ", notALine}, {" flags", notALine}, {" add 1 2", notALine}, {"  sqrt 1", notALine},
		// A blank more gives a word more.
		{"flags ", notALine}, {"flags  ", notALine}, {"add 1 2 ", notALine}, {"add 1  2", notALine}, {"add  1 2", notALine}, {"sqrt 1 ", notALine}, {"sqrt  1", notALine},
		{"format 64 ", notALine}, {"format  64", notALine}, {"mode 1 ", notALine}, {"fma 1 2 3 ", notALine}, {"add ", notALine}, {"fma  ", notALine}, {"sqrt  ", notALine},
		// Where that makes just so many words, one of them is no number.
		{"add  1", notANumber}, {"add 1 ", notANumber}, {"add  ", notANumber}, {"compare  1", notANumber}, {"compare 1 ", notANumber}, {"sqrt ", notANumber}, {"next ", notANumber}, {"word ", notANumber},
		{"format ", notANumber}, {"mode ", notANumber}, {"fma 1 2 ", notANumber}, {"fma 1  3", notANumber}, {"fma  2 3", notANumber}, {"fma   ", notANumber}, {"quantize  ", notANumber},
		// Other first words.
		{"x", notALine}, {"0", notALine}, {"1 add 1", notALine}, {"ok", notALine}, {"ad 1 2", notALine}, {"addd 1 2", notALine}, {"rem 1 2", notALine}, {"nextup 1", notALine}, {"NextUp 1", notALine},
		{"divide 1 2", notALine}, {"root 1", notALine}, {"scale 1 2", notALine}, {"\x00", notALine}, {"\xff\xfe", notALine}, {"é", notALine}, {"error 1", notALine}, {"flag", notALine}, {"flagss", notALine},
		// Other bytes between words, ahead of them and behind them.
		{"add\t1\t2", notALine}, {"add 1\t2", notALine}, {"add\t1 2", notALine}, {"add\t1 2 3", notALine}, {"add,1,2", notALine}, {"add\u00a01\u00a02", notALine}, {"add\v1\v2", notALine},
		{"add 1 2\t", notANumber}, {"add 1 \t2", notANumber}, {"add 1 2\r", notANumber}, {"add 1 2\x00", notANumber}, {"sqrt 4\f", notANumber}, {"word \u00a01", notANumber},
		{"\t", notALine}, {"\r", notALine}, {"flags\r", notALine}, {"flags\t", notALine}, {"\tflags", notALine}, {"\ufeffflags", notALine}, {"flags\x00", notALine},
		{"format 64\r", notANumber}, {"mode 1\r", notANumber}, {"mode \t1", notANumber}, {"mode 1\r ", notALine},
	} {
		checkBench(t, c)
		checkBench(t, benchLine{"div 1 3", "0.3333333333333333"}, c, benchLine{"flags", "16"})
	}
}

func TestBenchGreatLetters(t *testing.T) {
	for name, count := range benchCounts {
		for _, word := range casings(name) {
			if word != name {
				checkBench(t, benchLine{word + strings.Repeat(" 1", count), notALine})
			}
		}
	}
}

// TestBenchCounts: too few words and too many, whatever they are.
func TestBenchCounts(t *testing.T) {
	for name, right := range benchCounts {
		for count := range 8 {
			if count == right {
				continue
			}
			for _, word := range []string{" 1", " 64", " x", " ", " 0.5"} {
				checkBench(t, benchLine{name + strings.Repeat(word, count), notALine})
			}
		}
		if got := impl.Bench(name + strings.Repeat(" x", right)); right > 0 && got != notANumber+"\n" {
			t.Errorf("%s with %d words x: %q", name, right, got)
		}
	}
}

// changesNothing: behind a line that is answered by an error, the settings and the
// flags are those of before, whatever they were.
func changesNothing(t *testing.T, wrong benchLine) {
	t.Helper()
	checkBench(t,
		wrong,
		benchLine{"flags", "0"},
		benchLine{"word 1", "2238000000000001"},
		benchLine{"quantize 2.5 1", "2"},
		benchLine{"quantize 3.5 1", "4"},
		wrong,
		benchLine{"flags", "16"},
		benchLine{"format 128", "ok"},
		benchLine{"mode 4", "ok"},
		benchLine{"div 1 0", "Infinity"},
		wrong,
		wrong,
		benchLine{"word 1", "22080000000000000000000000000001"},
		benchLine{"flags", "2"},
		benchLine{"quantize -2.5 1", "-2"},
		benchLine{"quantize 2.4 1", "3"},
		benchLine{"flags", "16"},
	)
}

func TestBenchNoFormat(t *testing.T) {
	for _, word := range []string{
		"", "0", "1", "2", "5", "63", "65", "127", "129", "6", "4", "32", "256", "646", "6464", "64128",
		"-64", "-128", "+64", "+128", "064", "0128", "0000064", "0x40", "0o100", "1e2", "64.", "64.0", "6_4", "1_28", "64e0", "64,", "-", "+", "-0", "00",
		"x", "Fm64", "sixty", "NaN", "Inf", "64x", "x64", "\u0666\u0664", "６４", "64\x00", "64\t",
		"4294967360", "18446744073709551680", "9223372036854775807", "9223372036854775808", "-9223372036854775808", "999999999", "1000000000", "0000000064", strings.Repeat("9", 300),
	} {
		changesNothing(t, benchLine{"format " + word, notANumber})
	}
}

func TestBenchNoMode(t *testing.T) {
	for _, word := range []string{
		"", "0", "6", "7", "9", "10", "11", "15", "51", "64", "128",
		"-1", "-5", "+1", "+5", "01", "05", "0000001", "0x1", "0b1", "1e0", "1.", "1.0", "1_", "_1", "1,", "-", "+", "-0", "00",
		"x", "RmEven", "even", "NaN", "Inf", "1x", "x1", "\u0661", "１", "1\x00", "1\t",
		"257", "65537", "4294967297", "18446744073709551617", "9223372036854775807", "9223372036854775808", "-9223372036854775808", "999999999", "1000000000", "0000000001", strings.Repeat("1", 300),
	} {
		changesNothing(t, benchLine{"mode " + word, notANumber})
	}
}

// TestBenchNoNum: each NUM of each row, beside ones that alone would flag
// something.
func TestBenchNoNum(t *testing.T) {
	for name, count := range benchCounts {
		if name == "format" || name == "mode" {
			continue
		}
		for place := range count {
			for _, wrong := range noNums {
				for _, beside := range []string{"1", "-0", "sNaN", "Inf", strings.Repeat("9", 200)} {
					line := name + strings.Repeat(" "+beside, place) + " " + wrong + strings.Repeat(" "+beside, count-place-1)
					changesNothing(t, benchLine{line, notANumber})
				}
			}
		}
	}
}

// TestBenchLongNums: as many bytes as ReadNum takes are taken.
func TestBenchLongNums(t *testing.T) {
	long, longer := strings.Repeat("0", 199)+"7", strings.Repeat("0", 200)+"7"
	checkBench(t,
		benchLine{"add " + long + " " + long, "14"},
		benchLine{"fma " + long + " " + long + " " + long, "56"},
		benchLine{"compare " + long + " 7", "0"},
		benchLine{"add " + longer + " 1", notANumber},
		benchLine{"add 1 " + longer, notANumber},
		benchLine{"fma 1 1 " + longer, notANumber},
		benchLine{"word " + long, "2238000000000007"},
	)
}

// TestBenchErrorsFirst: a wrong count of words is told even where a word is no
// number, or a number out of range.
func TestBenchErrorsFirst(t *testing.T) {
	for _, c := range []benchLine{
		{"add x", notALine}, {"add x y z", notALine}, {"add 1 2 x", notALine}, {"format x y", notALine}, {"format 65 1", notALine}, {"mode 6 6", notALine}, {"mode", notALine},
		{"sqrt x x", notALine}, {"x x", notALine}, {"flags x", notALine}, {"fma x y", notALine}, {"add x y", notANumber}, {"format 65", notANumber}, {"mode 6", notANumber}, {"fma x y z", notANumber},
	} {
		changesNothing(t, c)
	}
}
