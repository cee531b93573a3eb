package tests

import (
	"regexp"
	"strconv"
	"strings"
	"testing"
	"unsafe"

	"loop.example/g00085/impl"
)

// The chapter's forms. What a class of letters would fold is written out, since
// it would take in letters of other alphabets.
var (
	infinityForm = regexp.MustCompile(`^([+-]?)[Ii][Nn][Ff]([Ii][Nn][Ii][Tt][Yy])?\z`)
	quietForm    = regexp.MustCompile(`^[+-]?[Nn][Aa][Nn]\z`)
	signalForm   = regexp.MustCompile(`^[+-]?[Ss][Nn][Aa][Nn]\z`)
	finiteForm   = regexp.MustCompile(`^([+-]?)(?:([0-9]+)\.?([0-9]*)|\.([0-9]+))(?:[Ee]([+-]?[0-9]{1,5}))?\z`)
)

// readAnew takes a text apart by its form.
func readAnew(t *testing.T, l wordLayout, mode int64, text string) (impl.Result, bool) {
	t.Helper()
	if len(text) > 200 {
		return impl.Result{}, false
	}
	if parts := infinityForm.FindStringSubmatch(text); parts != nil {
		return plainly(infinity(parts[1] == "-")), true
	}
	if quietForm.MatchString(text) {
		return plainly(quietNan), true
	}
	if signalForm.MatchString(text) {
		return plainly(signalNan), true
	}
	parts := finiteForm.FindStringSubmatch(text)
	if parts == nil {
		return impl.Result{}, false
	}
	behind := parts[3] + parts[4]
	digits, exp := parts[2]+behind, -int64(len(behind))
	for len(digits) > 1 && digits[0] == '0' {
		digits = digits[1:]
	}
	if parts[5] != "" {
		power, err := strconv.ParseInt(parts[5], 10, 64)
		if err != nil {
			t.Fatal(err)
		}
		exp += power
	}
	return finishedAnew(t, l, finishing{mode, parts[1] == "-", digits, exp, false, exp}), true
}

// checkReadAnew tells whether it was read, too.
func checkReadAnew(t *testing.T, l wordLayout, mode int64, text string) bool {
	t.Helper()
	got, is := impl.ReadNum(l.format, mode, text)
	want, wanted := readAnew(t, l, mode, text)
	if got != want || is != wanted {
		t.Fatalf("ReadNum(%d, %d, %q) = %+v, %v, not %+v, %v", l.format, mode, text, got, is, want, wanted)
	}
	if is && !impl.NumOk(l.format, got.Num) {
		t.Fatalf("ReadNum(%d, %d, %q) = %+v, which is not right", l.format, mode, text, got)
	}
	return is
}

// TestReadNumShortTexts are all texts of up to five letters of ours.
func TestReadNumShortTexts(t *testing.T) {
	texts, taken := []string{""}, 0
	for range 5 {
		longer := []string{}
		for _, text := range texts {
			for _, letter := range []string{"0", "5", ".", "+", "-", "E", "e", "N", " "} {
				longer = append(longer, text+letter)
			}
		}
		for _, text := range longer {
			if checkReadAnew(t, wordLayouts[0], impl.RmEven, text) {
				taken++
			}
		}
		texts = longer
	}
	if taken < 500 || taken > 2000 {
		t.Errorf("%d short texts were read", taken)
	}
}

// drawnText is mostly of a form, and stands where something turns in the format.
func drawnText(d *draws, l wordLayout) string {
	sign := []string{"", "+", "-"}[d.within(0, 2)]
	if d.within(0, 9) == 0 {
		ways := casings([]string{"Infinity", "Inf", "NaN", "sNaN"}[d.within(0, 3)])
		return sign + ways[d.within(0, int64(len(ways)-1))]
	}
	drawn := drawnFinishing(d, l)
	digits := noughts([]int{0, 0, 1, 3}[d.within(0, 3)]) + drawn.digits
	if d.within(0, 9) == 0 {
		digits = noughts(int(d.within(1, 20)))
	}
	power, point := drawn.exp, int64(-1)
	if d.either() {
		point = d.within(0, int64(len(digits)))
		power += int64(len(digits)) - point
		digits = digits[:point] + "." + digits[point:]
	}
	return sign + digits + drawnPower(d, power)
}

// drawnPower may have noughts ahead, and is left out where it tells nothing.
func drawnPower(d *draws, power int64) string {
	if power == 0 && d.either() {
		return ""
	}
	size := strings.TrimLeft(strconv.FormatInt(power, 10), "-")
	size = noughts(int(d.within(0, int64(5-len(size))))) + size
	sign := []string{"", "+"}[d.within(0, 1)]
	if power < 0 {
		sign = "-"
	}
	return []string{"E", "e"}[d.within(0, 1)] + sign + size
}

// spoiltText has a letter more, less or other than it had, or two turned round.
func spoiltText(d *draws, text string) string {
	letters := "0059.+-EeINFTYSAinftysa x\x00\xff"
	letter := string(letters[d.within(0, int64(len(letters)-1))])
	place := int(d.within(0, int64(len(text)-1)))
	switch d.within(0, 3) {
	case 0:
		return text[:place] + letter + text[place:]
	case 1:
		return text[:place] + text[place+1:]
	case 2:
		return text[:place] + letter + text[place+1:]
	}
	return text[place:] + text[:place]
}

func TestReadNumDrawn(t *testing.T) {
	for _, l := range wordLayouts {
		d, flagged := &draws{uint64(l.format) + 167}, map[int64]int{}
		for range 20000 {
			text := drawnText(d, l)
			for _, mode := range allModes {
				is := checkReadAnew(t, l, mode, text)
				if is != (len(text) <= mostNatural) {
					t.Fatalf("ReadNum(%d, %d, %q) is read: %v", l.format, mode, text, is)
				}
				got, _ := impl.ReadNum(l.format, mode, text)
				flagged[got.Flags]++
			}
		}
		// What is drawn comes to all flags often enough.
		for _, flags := range []int64{0, inexact, under, over} {
			if flagged[flags] < 1000 {
				t.Errorf("%d: the flags %d came only %d times", l.format, flags, flagged[flags])
			}
		}
	}
}

// TestReadNumAnswersAnything is promise 18: spoilt texts, and formats and modes
// that are none, are read or refused as the forms tell, and the same again.
func TestReadNumAnswersAnything(t *testing.T) {
	for _, l := range wordLayouts {
		d, refused := &draws{uint64(l.format) + 168}, 0
		for range 40000 {
			text := spoiltText(d, drawnText(d, l))
			mode := d.within(1, 5)
			if !checkReadAnew(t, l, mode, text) {
				refused++
			}
			got, is := impl.ReadNum(l.format, mode, text)
			if again, still := impl.ReadNum(l.format, mode, text); got != again || is != still {
				t.Fatalf("ReadNum(%d, %d, %q) = %+v, then %+v", l.format, mode, text, got, again)
			}
			refusesRead(t, int64(d.next())|1, mode, text)
			refusesRead(t, l.format, int64(d.next())|8, text)
		}
		if refused < 5000 || refused > 35000 {
			t.Errorf("%d: %d spoilt texts were refused", l.format, refused)
		}
	}
}

// checkReadBack is promise 16: what is shown is read as it was, by every mode.
func checkReadBack(t *testing.T, format int64, n impl.Num) {
	t.Helper()
	text := impl.ShowNum(n)
	for _, mode := range allModes {
		if got, is := impl.ReadNum(format, mode, text); !is || got != plainly(n) {
			t.Fatalf("ReadNum(%d, %d, %q) = %+v, %v, not %+v", format, mode, text, got, is, n)
		}
	}
}

func TestPromiseReadBack(t *testing.T) {
	for _, l := range wordLayouts {
		for _, n := range rightNums(l) {
			checkReadBack(t, l.format, n)
		}
		d := &draws{uint64(l.format) + 169}
		for range 20000 {
			checkReadBack(t, l.format, drawnAny(d, l))
		}
	}
}

// TestPromiseReadBackEveryExp: few digits, all of them, and noughts, all over the
// format. What is right in the small one is read back by the wide one as well.
func TestPromiseReadBackEveryExp(t *testing.T) {
	for _, l := range wordLayouts {
		for exp := l.least; exp <= l.greatest; exp++ {
			for _, digits := range []string{"0", "7", "70", nines(l.digits)} {
				n := finite(exp%2 == 0, digits, exp)
				checkReadBack(t, l.format, n)
				checkReadBack(t, impl.Fm128, n)
			}
		}
	}
}

// TestReadNumIsNewMemory: digits that stand in the text as they come out are none
// of its bytes, and those stay.
func TestReadNumIsNewMemory(t *testing.T) {
	for _, l := range wordLayouts {
		for _, size := range []int{2, 7, l.digits} {
			text := strings.Clone(mixedNatural(3, size))
			before := strings.Clone(text)
			got, is := impl.ReadNum(l.format, impl.RmEven, text)
			if !is || got != plainly(above(before, 0)) || text != before {
				t.Errorf("ReadNum(%d, 1, %q) = %+v, and the text is %q", l.format, before, got, text)
			}
			if unsafe.StringData(got.Num.Digits) == unsafe.StringData(text) {
				t.Errorf("ReadNum(%d, 1, %q) shares the memory of the text", l.format, before)
			}
		}
	}
}
