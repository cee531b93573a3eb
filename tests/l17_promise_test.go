package tests

import (
	"fmt"
	"maps"
	"slices"
	"strconv"
	"strings"
	"testing"
	"unsafe"

	"loop.example/g00085/impl"
)

// benchOperations are the rows that answer a Num, by their first words.
func benchOperations() map[string]operation {
	operations, rows := ratioOperations(), map[string]operation{}
	maps.Copy(operations, orderOperations())
	for _, o := range sumOperations() {
		operations[o.name] = o
	}
	for word, name := range map[string]string{
		"add": "Add", "sub": "Sub", "mul": "Mul", "div": "Div", "fma": "Fma", "sqrt": "Sqrt", "quantize": "Quantize", "next": "NextUp",
	} {
		rows[word] = operations[name]
	}
	return rows
}

// benchAnew is a bench made of the other chapters' functions.
type benchAnew struct {
	format, mode, flags int64
	rows                map[string]operation
}

func newBench() *benchAnew {
	return &benchAnew{impl.Fm64, impl.RmEven, 0, benchOperations()}
}

func (b *benchAnew) answer(line string) string {
	name, behind, _ := strings.Cut(line, " ")
	if count, known := benchCounts[name]; !known || strings.Count(line, " ") != count {
		return notALine
	}
	switch name {
	case "format":
		return setAnew(&b.format, behind, "64", "128")
	case "mode":
		return setAnew(&b.mode, behind, "1", "2", "3", "4", "5")
	case "flags":
		told := fmt.Sprint(b.flags)
		b.flags = 0
		return told
	}
	nums, taken := b.read(behind)
	switch {
	case !taken:
		return notANumber
	case name == "compare":
		return fmt.Sprint(impl.Compare(b.format, nums[0], nums[1]))
	case name == "word":
		return b.wordOf(nums[0])
	}
	result := b.rows[name].call(b.format, b.mode, nums)
	for _, flag := range []int64{impl.FlInvalid, impl.FlDivide, impl.FlOver, impl.FlUnder, impl.FlInexact} {
		if result.Flags&flag > 0 && b.flags&flag == 0 {
			b.flags += flag
		}
	}
	return impl.ShowNum(result.Num)
}

func setAnew(setting *int64, word string, right ...string) string {
	if !slices.Contains(right, word) {
		return notANumber
	}
	*setting, _ = strconv.ParseInt(word, 10, 64)
	return "ok"
}

func (b *benchAnew) read(words string) ([]impl.Num, bool) {
	nums := []impl.Num{}
	for more := true; more; {
		var word string
		word, words, more = strings.Cut(words, " ")
		read, taken := impl.ReadNum(b.format, b.mode, word)
		if !taken {
			return nil, false
		}
		nums = append(nums, read.Num)
	}
	return nums, true
}

func (b *benchAnew) wordOf(n impl.Num) string {
	if b.format == impl.Fm64 {
		word, _ := impl.Pack64(n)
		return fmt.Sprintf("%016x", word)
	}
	wide, _ := impl.Pack128(n)
	return fmt.Sprintf("%016x%016x", wide.Hi, wide.Lo)
}

// benchedAnew answers a text, be it too long or not.
func benchedAnew(text string) string {
	b, answers, count, left := newBench(), "", 0, text
	for left != "" {
		var line string
		line, left, _ = strings.Cut(left, "\n")
		count++
		if line != "" {
			answers += b.answer(line) + "\n"
		}
	}
	if len(text) > 20000 || count > 200 {
		return ""
	}
	return answers
}

func checkBenchAnew(t *testing.T, text string) string {
	t.Helper()
	got, want := impl.Bench(text), benchedAnew(text)
	if got == want {
		return got
	}
	lines, told, asked := strings.Split(text, "\n"), strings.Split(got, "\n"), strings.Split(want, "\n")
	for place := range min(len(told), len(asked)) {
		if told[place] != asked[place] {
			t.Fatalf("Bench: the %d. answer is %q, not %q, of the lines %q", place+1, told[place], asked[place], lines)
		}
	}
	t.Fatalf("Bench gives %d answers, not %d, of the lines %q", len(told)-1, len(asked)-1, lines)
	return ""
}

// checkInTexts lays the lines, each with its flags behind it, into as many texts
// as it takes, and the same lines ahead of each.
func checkInTexts(t *testing.T, ahead string, lines []string) {
	t.Helper()
	for len(lines) > 0 {
		text, count := ahead, strings.Count(ahead, "\n")
		for len(lines) > 0 && count+2 <= impl.MaxLines && len(text)+len(lines[0])+len("\nflags\n") <= impl.MaxText {
			text += lines[0] + "\nflags\n"
			lines, count = lines[1:], count+2
		}
		if answers := checkBenchAnew(t, text); strings.Count(answers, "\n") != count {
			t.Fatalf("%d answers to %d lines: %q", strings.Count(answers, "\n"), count, text)
		}
	}
}

// benchTexts are finite ones, noughts, infinities and NaNs of both signs, and what
// is rounded, too great or too small when it is read.
var benchTexts = []string{
	"0", "-0.00", "7", "-12.50", "0.3", "2E+3", "-1E-398", "Infinity", "-inf", "NaN", "-sNaN", "9999999999999999E+369", "-9.99999999999999999999999999999999995E-70", "1E+9999", "-1E-9999",
}

// wordsOf are all lists of so many words.
func wordsOf(words []string, count int) []string {
	lists := []string{""}
	for range count {
		longer := []string{}
		for _, list := range lists {
			for _, word := range words {
				longer = append(longer, list+" "+word)
			}
		}
		lists = longer
	}
	return lists
}

// TestPromiseBenchRows is promise 17: each row in both formats and each mode.
func TestPromiseBenchRows(t *testing.T) {
	for name, count := range benchCounts {
		if name == "format" || name == "mode" || name == "flags" {
			continue
		}
		lines := []string{}
		for _, words := range wordsOf(benchTexts, count) {
			lines = append(lines, name+words)
		}
		for _, l := range wordLayouts {
			for _, mode := range allModes {
				checkInTexts(t, fmt.Sprintf("format %d\nmode %d\n", l.format, mode), lines)
			}
		}
	}
}

// drawnNums are words of a line, by which operations meet what they turn at.
func drawnNums(d *draws, l wordLayout, count int) string {
	words := ""
	for range count {
		if d.either() {
			words += " " + drawnText(d, l)
		} else {
			words += " " + impl.ShowNum(drawnAny(d, l))
		}
	}
	return words
}

func drawnRight(d *draws, l wordLayout) string {
	names := slices.Sorted(maps.Keys(benchCounts))
	switch name := names[d.within(0, int64(len(names)-1))]; name {
	case "format":
		return name + " " + []string{"64", "128"}[d.within(0, 1)]
	case "mode":
		return name + " " + fmt.Sprint(d.within(1, 5))
	default:
		return name + drawnNums(d, l, benchCounts[name])
	}
}

// drawnWrong may be right still, as a bit of what was right.
func drawnWrong(d *draws, l wordLayout) string {
	line := drawnRight(d, l)
	words := strings.Split(line, " ")
	place := d.within(0, int64(len(words)-1))
	switch d.within(0, 6) {
	case 0:
		return spoiltText(d, line)
	case 1:
		words[place] = ""
	case 2:
		words[place] = strings.ToUpper(words[place])
	case 3:
		words[place] = spoiltText(d, words[place]+"x")
	case 4:
		words = append(words, words[place])
	case 5:
		words = words[:place]
	case 6:
		words[place] = fmt.Sprint(d.within(-200, 200))
	}
	return strings.Join(words, " ")
}

// drawnLines keep within the bounds.
func drawnLines(d *draws, count int) []string {
	lines, size := []string{}, 0
	for range count {
		l := wordLayouts[d.within(0, 1)]
		line := ""
		switch d.within(0, 7) {
		case 0:
		case 1, 2:
			line = drawnWrong(d, l)
		default:
			line = drawnRight(d, l)
		}
		// What was spoilt may have no line end of its own.
		line = strings.ReplaceAll(line, "\n", "")
		if size += len(line) + 1; size > impl.MaxText {
			return lines
		}
		lines = append(lines, line)
	}
	return lines
}

// TestPromiseBenchDrawn is promise 17 of lines of all sorts.
func TestPromiseBenchDrawn(t *testing.T) {
	d, told := &draws{171}, map[string]int{}
	for range 700 {
		text := strings.Join(drawnLines(d, int(d.within(1, 200))), "\n")
		if d.either() {
			text += "\n"
		}
		for _, answer := range strings.Split(checkBenchAnew(t, text), "\n") {
			told[answer]++
		}
	}
	for _, answer := range []string{"ok", notALine, notANumber, "-1", "0", "1", "2", "16", "17", "24", "NaN", "Infinity", "-Infinity"} {
		if told[answer] < 50 {
			t.Errorf("%q is told %d times", answer, told[answer])
		}
	}
}

// TestPromiseBenchGoesOn: there is an answer for each line that has a byte, and
// what comes later changes none.
func TestPromiseBenchGoesOn(t *testing.T) {
	d := &draws{172}
	for range 40 {
		lines := drawnLines(d, int(d.within(1, 60)))
		all, count := impl.Bench(strings.Join(lines, "\n")), 0
		for place, line := range lines {
			if line != "" {
				count++
			}
			ahead := strings.Join(lines[:place+1], "\n")
			for _, text := range []string{ahead, ahead + "\n", ahead + "\n\n"} {
				got := impl.Bench(text)
				if strings.Count(got, "\n") != count || !strings.HasPrefix(all, got) || got != "" && !strings.HasSuffix(got, "\n") {
					t.Fatalf("Bench(%q) = %q, which has not %d answers, or not the first ones of %q", text, got, count, all)
				}
			}
		}
	}
}

// answersTo is a text's answers, one for each line.
func answersTo(t *testing.T, lines ...string) []string {
	t.Helper()
	answers := strings.Split(impl.Bench(strings.Join(lines, "\n")), "\n")
	if len(answers) != len(lines)+1 {
		t.Fatalf("Bench(%q) has %d answers", lines, len(answers)-1)
	}
	return answers[:len(lines)]
}

// checkWholes asks the bench what n and k make; k is below n.
func checkWholes(t *testing.T, format string, n, k int64) (exact bool) {
	t.Helper()
	a, b := fmt.Sprint(n), fmt.Sprint(k)
	told := answersTo(t, "format "+format, "add "+a+" "+b, "sub "+a+" "+b, "sub "+b+" "+a, "compare "+a+" "+b, "compare "+b+" "+a, "compare "+a+" "+a, "mul "+a+" "+a, "flags", "div "+a+" "+b, "flags")
	for place, want := range []string{"ok", fmt.Sprint(n + k), fmt.Sprint(n - k), fmt.Sprint(k - n), "1", "-1", "0", fmt.Sprint(n * n), "0"} {
		if told[place] != want {
			t.Fatalf("%d and %d: the %d. answer is %s, not %s", n, k, place+1, told[place], want)
		}
	}
	square, quotient, flags := told[7], told[9], told[10]
	again := answersTo(t, "format "+format, "sqrt "+square, "flags", "mul "+quotient+" "+b, "flags")
	if again[1] != a || again[2] != "0" {
		t.Fatalf("the root of %s is %s, with the flags %s", square, again[1], again[2])
	}
	switch {
	case k == 0:
		if quotient != "Infinity" || flags != "2" {
			t.Fatalf("%d over 0 is %s, with the flags %s", n, quotient, flags)
		}
		return false
	case flags != "0":
		if flags != "16" || n%k == 0 {
			t.Fatalf("%d over %d is %s, with the flags %s", n, k, quotient, flags)
		}
		return false
	}
	if same := answersTo(t, "format "+format, "compare "+again[3]+" "+a); same[1] != "0" || again[4] != "0" {
		t.Fatalf("%d over %d is %s; times %d it is %s, with the flags %s", n, k, quotient, k, again[3], again[4])
	}
	return true
}

// TestPromiseBenchWholes: small ones all, others as they are drawn.
func TestPromiseBenchWholes(t *testing.T) {
	for _, format := range []string{"64", "128"} {
		for n := range int64(40) {
			for k := range n {
				checkWholes(t, format, n, k)
			}
		}
		d, exact := &draws{173}, 0
		for range 3000 {
			n := d.within(1, []int64{99, 999, 9999, 99999, 999999}[d.within(0, 4)])
			k := d.within(0, n-1)
			if d.either() {
				// What has but twos and fives, or is a part of n.
				k = []int64{1, 2, 4, 5, 8, 16, 25, 64, 125, 1024, 3125, 524288}[d.within(0, 11)] % n
			}
			if checkWholes(t, format, n, k) {
				exact++
			}
		}
		if exact < 800 || exact > 2500 {
			t.Errorf("%s: %d of 3000 were exact", format, exact)
		}
	}
}

// TestBenchAnswersAnything is promise 18: whatever the bytes, and twice the same.
func TestBenchAnswersAnything(t *testing.T) {
	d := &draws{174}
	letters := []string{" ", " ", " ", "\n", "\n", "\x00", "\xff", "\t", "\r", "é", "0", "1", "9", ".", "-", "E", "add", "format", "128", "mode", "flags", "NaN", "fma", "word", "next"}
	for range 4000 {
		var text strings.Builder
		for range d.within(0, 300) {
			if d.within(0, 3) == 0 {
				text.WriteByte(byte(d.next()))
			} else {
				text.WriteString(letters[d.within(0, int64(len(letters)-1))])
			}
		}
		got := checkBenchAnew(t, text.String())
		if again := impl.Bench(text.String()); again != got {
			t.Fatalf("Bench(%q) = %q, then %q", text.String(), got, again)
		}
	}
}

// TestBenchIsNewMemory: no answer lies in the text, though it has the same bytes.
func TestBenchIsNewMemory(t *testing.T) {
	for _, given := range []string{"add 0 7", "flags", "add 0 12345.678\n", "x", "sqrt Infinity", "error 1\n", "0\n"} {
		text := strings.Clone(given)
		got := impl.Bench(text)
		if got == "" {
			t.Fatalf("Bench(%q) is empty", text)
		}
		first, begin := uintptr(unsafe.Pointer(unsafe.StringData(got))), uintptr(unsafe.Pointer(unsafe.StringData(text)))
		if first >= begin && first < begin+uintptr(len(text)) {
			t.Errorf("Bench(%q) shares the memory of the text", text)
		}
		if text != given {
			t.Errorf("Bench(%q) changed the text to %q", given, text)
		}
	}
}
