package tests

import (
	"strings"
	"testing"

	"loop.example/g00085/impl"
)

// benchLine is a line of a text and the line that answers it.
type benchLine struct{ line, answer string }

const (
	notALine   = "error 1"
	notANumber = "error 2"
)

func checkBenchText(t *testing.T, text, want string) {
	t.Helper()
	if got := impl.Bench(text); got != want {
		t.Errorf("Bench(%.300q) = %.300q, not %.300q", text, got, want)
	}
}

func checkBench(t *testing.T, lines ...benchLine) {
	t.Helper()
	var text, want strings.Builder
	for _, l := range lines {
		text.WriteString(l.line + "\n")
		want.WriteString(l.answer + "\n")
	}
	checkBenchText(t, text.String(), want.String())
}

func TestBenchLimits(t *testing.T) {
	if impl.MaxText != 20000 || impl.MaxLines != 200 {
		t.Errorf("MaxText is %d, MaxLines %d", impl.MaxText, impl.MaxLines)
	}
}

// TestBenchRows has each row of the table in both formats.
func TestBenchRows(t *testing.T) {
	checkBench(t,
		benchLine{"add 1.50 2", "3.50"},
		benchLine{"sub 1.50 2", "-0.50"},
		benchLine{"mul 1.50 -2", "-3.00"},
		benchLine{"div 3 2", "1.5"},
		benchLine{"fma 3 4 0.5", "12.5"},
		benchLine{"sqrt 2.25", "1.5"},
		benchLine{"quantize 2.25 0.1", "2.2"},
		benchLine{"next 1", "1.000000000000001"},
		benchLine{"compare 1 2", "-1"},
		benchLine{"word 1", "2238000000000001"},
		benchLine{"flags", "16"},
		benchLine{"flags", "0"},
		benchLine{"format 128", "ok"},
		benchLine{"add 1.50 2E-33", "1.500000000000000000000000000000002"},
		benchLine{"sub 1E+33 1", "999999999999999999999999999999999"},
		benchLine{"mul 11111111111111111 11111111111111111", "123456790123456787654320987654321"},
		benchLine{"div 2 3", "0.6666666666666666666666666666666667"},
		benchLine{"fma 11111111111111111 11111111111111111 0.5", "123456790123456787654320987654321.5"},
		benchLine{"sqrt 2", "1.414213562373095048801688724209698"},
		benchLine{"quantize 7 1E-33", "7.000000000000000000000000000000000"},
		benchLine{"next 1", "1.000000000000000000000000000000001"},
		benchLine{"compare 2 1", "1"},
		benchLine{"word 1", "22080000000000000000000000000001"},
		benchLine{"flags", "16"},
		benchLine{"mode 4", "ok"},
		benchLine{"format 64", "ok"},
		benchLine{"div 2 3", "0.6666666666666667"},
		benchLine{"mode 2", "ok"},
		benchLine{"div 2 3", "0.6666666666666666"},
	)
}

// TestBenchFirst: what each text begins with is told by what it answers, and
// nothing of the last text stays.
func TestBenchFirst(t *testing.T) {
	for range 2 {
		checkBench(t,
			benchLine{"word 0", "2238000000000000"},
			// Of two that are as near, the even one: not away from 0, and not towards it.
			benchLine{"quantize 2.5 1", "2"},
			benchLine{"quantize 3.5 1", "4"},
			benchLine{"flags", "16"},
			benchLine{"format 128", "ok"},
			benchLine{"mode 5", "ok"},
			benchLine{"sqrt -1", "NaN"},
		)
		checkBench(t, benchLine{"flags", "0"})
	}
}

func TestBenchModes(t *testing.T) {
	for mode, answers := range map[string][4]string{
		"1": {"2", "4", "-2", "2"},
		"2": {"2", "3", "-2", "2"},
		"3": {"2", "3", "-3", "2"},
		"4": {"3", "4", "-2", "3"},
		"5": {"3", "4", "-3", "2"},
	} {
		for _, format := range []string{"64", "128"} {
			checkBench(t,
				benchLine{"format " + format, "ok"},
				benchLine{"mode " + mode, "ok"},
				benchLine{"quantize 2.5 1", answers[0]},
				benchLine{"quantize 3.5 1", answers[1]},
				benchLine{"quantize -2.5 1", answers[2]},
				benchLine{"quantize 2.4 1", answers[3]},
			)
		}
	}
}

// TestBenchSettingsHold: each holds until it is set anew, over other lines and
// wrong ones, and neither sets the other.
func TestBenchSettingsHold(t *testing.T) {
	checkBench(t,
		benchLine{"mode 3", "ok"},
		benchLine{"div -1 3", "-0.3333333333333334"},
		benchLine{"format 128", "ok"},
		benchLine{"div -1 3", "-0.3333333333333333333333333333333334"},
		benchLine{"mode 2", "ok"},
		benchLine{"div -1 3", "-0.3333333333333333333333333333333333"},
		benchLine{"format 64", "ok"},
		benchLine{"div -1 3", "-0.3333333333333333"},
		benchLine{"flags", "16"},
		benchLine{"div -1 3", "-0.3333333333333333"},
		benchLine{"mode 3", "ok"},
		benchLine{"mode 3", "ok"},
		benchLine{"format 64", "ok"},
		benchLine{"div -1 3", "-0.3333333333333334"},
	)
}

// TestBenchReadsBySettings: of more digits than the format has, as many stay as
// the format of then has, rounded by the mode of then.
func TestBenchReadsBySettings(t *testing.T) {
	long := "1.00000000000000051"
	checkBench(t,
		benchLine{"add " + long + " 0", "1.000000000000001"},
		benchLine{"mode 2", "ok"},
		benchLine{"add " + long + " 0", "1.000000000000000"},
		benchLine{"compare " + long + " 1", "0"},
		benchLine{"mode 4", "ok"},
		benchLine{"compare " + long + " 1", "1"},
		benchLine{"compare 1.00000000000000000001 1", "1"},
		benchLine{"compare -1.00000000000000000001 -1", "0"},
		benchLine{"word 1E-999", "0000000000000001"},
		benchLine{"flags", "0"},
		benchLine{"format 128", "ok"},
		benchLine{"add " + long + " 0", "1.00000000000000051"},
		benchLine{"word 1E-9999", "00000000000000000000000000000001"},
		benchLine{"mode 3", "ok"},
		benchLine{"word 1E-9999", "00000000000000000000000000000000"},
		benchLine{"next 1E+9999", "Infinity"},
		benchLine{"mode 5", "ok"},
		benchLine{"add 1E+9999 0", "Infinity"},
		benchLine{"flags", "0"},
	)
}

// TestBenchReadingFlagsNothing: what was rounded, was too great or too small when
// it was read, in each row that takes NUMs.
func TestBenchReadingFlagsNothing(t *testing.T) {
	for _, text := range []string{head(40), "1E+9999", "-1E-9999", "1." + head(60) + "E-6170"} {
		for _, format := range []string{"64", "128"} {
			for _, mode := range []string{"1", "2", "3", "4", "5"} {
				ahead := "format " + format + "\nmode " + mode + "\n"
				for _, line := range []string{"next NUM", "compare NUM NUM", "word NUM", "add NUM 0E-9999", "add 0E-9999 NUM", "sub NUM 0E-9999", "mul NUM 1", "div NUM 1", "fma NUM 1 0E-9999", "quantize NUM NUM"} {
					line = strings.ReplaceAll(line, "NUM", text)
					if got := impl.Bench(ahead + line + "\nflags\n"); !strings.HasSuffix(got, "\n0\n") {
						t.Errorf("format %s, mode %s, %s, flags: %q", format, mode, line, got)
					}
				}
			}
		}
	}
}

func TestBenchCompare(t *testing.T) {
	for _, format := range []string{"64", "128"} {
		lines := []benchLine{{"format " + format, "ok"}}
		for _, c := range []struct{ a, b, answer, back string }{
			{"1", "2", "-1", "1"}, {"-1", "1", "-1", "1"}, {"-2", "-1", "-1", "1"}, {"1.5", "1.50", "0", "0"}, {"0", "-0", "0", "0"},
			{"0E+9", "-0.000", "0", "0"}, {"1E+3", "1000", "0", "0"}, {"9E+99", "Inf", "-1", "1"}, {"-Inf", "-9E+99", "-1", "1"},
			{"Inf", "Infinity", "0", "0"}, {"-Inf", "Inf", "-1", "1"}, {"NaN", "1", "2", "2"}, {"sNaN", "1", "2", "2"},
			{"NaN", "sNaN", "2", "2"}, {"NaN", "NaN", "2", "2"}, {"-NaN", "Inf", "2", "2"},
		} {
			lines = append(lines, benchLine{"compare " + c.a + " " + c.b, c.answer}, benchLine{"compare " + c.b + " " + c.a, c.back})
		}
		checkBench(t, append(lines, benchLine{"flags", "0"})...)
	}
}

func TestBenchWord(t *testing.T) {
	checkBench(t,
		benchLine{"word 0E-398", "0000000000000000"},
		benchLine{"word -0E-398", "8000000000000000"},
		benchLine{"word 1E-398", "0000000000000001"},
		benchLine{"word -7.50", "a2300000000003d0"},
		benchLine{"word 9.999999999999999E+384", "77fcff3fcff3fcff"},
		benchLine{"word Infinity", "7800000000000000"},
		benchLine{"word -inf", "f800000000000000"},
		benchLine{"word NaN", "7c00000000000000"},
		benchLine{"word -sNaN", "7e00000000000000"},
		benchLine{"format 128", "ok"},
		benchLine{"word 0E-6176", "00000000000000000000000000000000"},
		benchLine{"word -0E-6176", "80000000000000000000000000000000"},
		benchLine{"word 1E-6176", "00000000000000000000000000000001"},
		benchLine{"word -7.50", "a20780000000000000000000000003d0"},
		benchLine{"word 1E+18", "220c8000000000000000000000000001"},
		benchLine{"word 1000000000000000000", "22080000000000001000000000000000"},
		benchLine{"word Infinity", "78000000000000000000000000000000"},
		benchLine{"word -inf", "f8000000000000000000000000000000"},
		benchLine{"word NaN", "7c000000000000000000000000000000"},
		benchLine{"word -sNaN", "7e000000000000000000000000000000"},
		benchLine{"flags", "0"},
	)
}

// TestBenchFlags: each of them, alone or with the one that it brings, once however
// often it came.
func TestBenchFlags(t *testing.T) {
	for _, c := range []struct{ line, answer, flags string }{
		{"add 1 2", "3", "0"}, {"add Inf -Inf", "NaN", "1"}, {"add 1 sNaN", "NaN", "1"}, {"add 1 NaN", "NaN", "0"},
		{"sub Inf Inf", "NaN", "1"}, {"mul 0 Inf", "NaN", "1"}, {"div 0 0", "NaN", "1"}, {"fma 0 Inf 1", "NaN", "1"}, {"sqrt -1", "NaN", "1"},
		{"quantize 1 Inf", "NaN", "1"}, {"next sNaN", "NaN", "1"}, {"div 1 0", "Infinity", "2"}, {"div -1 0", "-Infinity", "2"},
		{"mul 9E+384 10", "Infinity", "20"}, {"add 9999999999999999E+369 1E+369", "Infinity", "20"},
		{"div 1E-398 3", "0E-398", "24"}, {"mul 1E-398 0.5", "0E-398", "24"},
		{"div 1 3", "0.3333333333333333", "16"}, {"sqrt 2", "1.414213562373095", "16"}, {"quantize 2.5 1", "2", "16"}, {"fma 1 1 1E-99", "1.000000000000000", "16"},
		// The neighbour is not rounded, and what has no order or is packed flags nothing.
		{"next 9999999999999999E+369", "Infinity", "0"}, {"next 0", "1E-398", "0"}, {"next NaN", "NaN", "0"}, {"compare sNaN 1", "2", "0"}, {"word sNaN", "7e00000000000000", "0"},
	} {
		checkBench(t, benchLine{"flags", "0"}, benchLine{c.line, c.answer}, benchLine{"flags", c.flags}, benchLine{"flags", "0"})
		checkBench(t, benchLine{c.line, c.answer}, benchLine{c.line, c.answer}, benchLine{c.line, c.answer}, benchLine{"flags", c.flags}, benchLine{c.line, c.answer}, benchLine{"flags", c.flags})
	}
}

// TestBenchFlagsGather: over lines that flag nothing, other settings, and wrong
// lines.
func TestBenchFlagsGather(t *testing.T) {
	checkBench(t,
		benchLine{"div 1 0", "Infinity"},
		benchLine{"format 128", "ok"},
		benchLine{"sqrt -4", "NaN"},
		benchLine{"mode 4", "ok"},
		benchLine{"add 1 1", "2"},
		benchLine{"flags", "3"},
		benchLine{"mode 3", "ok"},
		benchLine{"div 1E-6176 7", "0E-6176"},
		benchLine{"compare 1 1", "0"},
		benchLine{"format 64", "ok"},
		benchLine{"mul 1E+300 1E+300", "9.999999999999999E+384"},
		benchLine{"flags 1", notALine},
		benchLine{"Flags", notALine},
		benchLine{"flags ", notALine},
		benchLine{"add 1 x", notANumber},
		benchLine{"mode 6", notANumber},
		benchLine{"flags", "28"},
		benchLine{"next sNaN", "NaN"},
		benchLine{"div 7 0", "Infinity"},
		benchLine{"mul 1E+300 1E+300", "9.999999999999999E+384"},
		benchLine{"mul 1E-300 1E-300", "0E-398"},
		benchLine{"flags", "31"},
		benchLine{"flags", "0"},
	)
}
