package tests

import (
	"math"
	"slices"
	"testing"

	"loop.example/g00085/impl"
)

var weightings = []int64{impl.WtPlain, impl.WtFour, impl.WtFive}

var noWeightings = []int64{0, 4, -1, -2, -3, 5, math.MinInt64, math.MaxInt64, 1 << 32, 1<<32 + 1}

// laneValues is written out by hand from the chapter's weights, a row for each
// weighting, so that the tests do not lean on the program's own table.
var laneValues = [3][16]int64{
	{0, 1, 2, 3, 4, 5, 6, 7, 8, 9, 10, 11, 12, 13, 14, 15},
	{0, 1, 2, 3, 2, 3, 4, 5, 4, 5, 6, 7, 6, 7, 8, 9},
	{0, 1, 1, 2, 2, 3, 3, 4, 5, 6, 6, 7, 7, 8, 8, 9},
}

var firstForms = [3][10]uint64{
	{0, 1, 2, 3, 4, 5, 6, 7, 8, 9},
	{0, 1, 2, 3, 6, 7, 10, 11, 14, 15},
	{0, 1, 3, 5, 7, 8, 9, 11, 13, 15},
}

// sampleWords are fixed: edges, one lane alone at each place with each of its
// sixteen values, and a run of mixed words.
func sampleWords() []uint64 {
	words := []uint64{
		0, 1, 0xa, 0xf, 0x1948, 0x1f6e, 0x9999999999999999, 0x1234567890123456,
		0x9876543210987654, 0xaaaaaaaaaaaaaaaa, 0xfedcba9876543210,
		0x8000000000000000, 0x7fffffffffffffff, math.MaxUint64,
	}
	for lane := range 16 {
		for bits := range uint64(16) {
			words = append(words, bits<<(4*lane), 0x9999999999999999&^(15<<(4*lane))|bits<<(4*lane))
		}
	}
	mixed := uint64(1)
	for range 500 {
		mixed = mixed*6364136223846793005 + 1442695040888963407
		words = append(words, mixed, mixed>>(mixed%64))
	}
	return words
}

func plainWords() []uint64 {
	words := []uint64{}
	for _, word := range sampleWords() {
		plain := uint64(0)
		for lane := range 16 {
			plain |= (word >> (4 * lane) & 15) % 10 << (4 * lane)
		}
		words = append(words, plain)
	}
	return words
}

// digitsOf is nil where a lane is not valid.
func digitsOf(weight int64, word uint64) []int64 {
	digits := []int64{}
	for lane := 15; lane >= 0; lane-- {
		digit := laneValues[weight-1][word>>(4*lane)&15]
		if digit > 9 {
			return nil
		}
		digits = append(digits, digit)
	}
	return digits
}

func packOf(weight int64, digits []int64) uint64 {
	word := uint64(0)
	for _, digit := range digits {
		word = word*16 + firstForms[weight-1][digit]
	}
	return word
}

// numberOf is what a plain word stands for; it is below 10 to the 16.
func numberOf(plain uint64) uint64 {
	number := uint64(0)
	for _, digit := range digitsOf(impl.WtPlain, plain) {
		number = number*10 + uint64(digit)
	}
	return number
}

func TestLaneOk(t *testing.T) {
	for _, word := range sampleWords() {
		for _, weight := range weightings {
			want := digitsOf(weight, word) != nil
			if got := impl.LaneOk(weight, word); got != want {
				t.Fatalf("LaneOk(%d, %x) = %v", weight, word, got)
			}
		}
		for _, weight := range noWeightings {
			if impl.LaneOk(weight, word) {
				t.Fatalf("LaneOk(%d, %x) = true", weight, word)
			}
		}
	}
}

func TestLaneOkEachLane(t *testing.T) {
	for lane := range 16 {
		for bits := uint64(10); bits < 16; bits++ {
			word := bits << (4 * lane)
			if impl.LaneOk(impl.WtPlain, word) {
				t.Fatalf("plain %x is taken", word)
			}
			if !impl.LaneOk(impl.WtFour, word) || !impl.LaneOk(impl.WtFive, word) {
				t.Fatalf("%x is not taken", word)
			}
		}
	}
}

func TestLaneDigits(t *testing.T) {
	for _, word := range sampleWords() {
		for _, weight := range weightings {
			want := digitsOf(weight, word)
			if got := impl.LaneDigits(weight, word); !slices.Equal(got, want) {
				t.Fatalf("LaneDigits(%d, %x) = %v, not %v", weight, word, got, want)
			}
		}
		for _, weight := range noWeightings {
			if got := impl.LaneDigits(weight, word); len(got) != 0 {
				t.Fatalf("LaneDigits(%d, %x) = %v", weight, word, got)
			}
		}
	}
}

func TestLaneDigitsByHand(t *testing.T) {
	want := []int64{0, 1, 2, 3, 2, 3, 4, 5, 4, 5, 6, 7, 6, 7, 8, 9}
	if got := impl.LaneDigits(impl.WtFour, 0x0123456789abcdef); !slices.Equal(got, want) {
		t.Fatal(got)
	}
	want = []int64{0, 1, 1, 2, 2, 3, 3, 4, 5, 6, 6, 7, 7, 8, 8, 9}
	if got := impl.LaneDigits(impl.WtFive, 0x0123456789abcdef); !slices.Equal(got, want) {
		t.Fatal(got)
	}
	want = []int64{1, 0, 0, 0, 0, 0, 0, 0, 0, 0, 0, 0, 1, 9, 4, 8}
	if got := impl.LaneDigits(impl.WtPlain, 0x1000000000001948); !slices.Equal(got, want) {
		t.Fatal(got)
	}
	if got := impl.LaneDigits(impl.WtPlain, 0x100000000000194a); len(got) != 0 {
		t.Fatal(got)
	}
}

func TestLaneDigitsIsNewMemory(t *testing.T) {
	for _, weight := range weightings {
		one, two := impl.LaneDigits(weight, 0x1234), impl.LaneDigits(weight, 0x1234)
		kept := slices.Clone(two)
		for i := range one[:cap(one)] {
			one[:cap(one)][i] = -7
		}
		three := impl.LaneDigits(weight, 0x1234)
		if !slices.Equal(two, kept) || !slices.Equal(three, kept) {
			t.Fatalf("weighting %d: answers share memory", weight)
		}
	}
	none := append(impl.LaneDigits(0, 0), -7)
	if more := append(impl.LaneDigits(0, 0), 1); none[0] != -7 || more[0] != 1 {
		t.Fatal("empty answers share memory")
	}
}

func TestLanePack(t *testing.T) {
	for _, word := range plainWords() {
		digits := digitsOf(impl.WtPlain, word)
		for _, weight := range weightings {
			for from := range 17 {
				got, fine := impl.LanePack(weight, digits[from:])
				if want := packOf(weight, digits[from:]); !fine || got != want {
					t.Fatalf("LanePack(%d, %v) = %x, %v, not %x", weight, digits[from:], got, fine, want)
				}
			}
		}
	}
}

func TestLanePackEdges(t *testing.T) {
	nines := slices.Repeat([]int64{9}, 17)
	full := [3]uint64{0x9999999999999999, math.MaxUint64, math.MaxUint64}
	for i, weight := range weightings {
		if got, fine := impl.LanePack(weight, nil); got != 0 || !fine {
			t.Fatalf("no digits in %d: %x, %v", weight, got, fine)
		}
		if got, fine := impl.LanePack(weight, []int64{}); got != 0 || !fine {
			t.Fatalf("no digits in %d: %x, %v", weight, got, fine)
		}
		if got, fine := impl.LanePack(weight, nines[:16]); got != full[i] || !fine {
			t.Fatalf("sixteen digits in %d: %x, %v", weight, got, fine)
		}
		for _, many := range [][]int64{nines, make([]int64, 17), make([]int64, 1000)} {
			if got, fine := impl.LanePack(weight, many); got != 0 || fine {
				t.Fatalf("%d digits in %d: %x, %v", len(many), weight, got, fine)
			}
		}
	}
}

func TestLanePackWrong(t *testing.T) {
	for _, weight := range weightings {
		for _, bad := range []int64{-1, 10, 15, 16, math.MinInt64, math.MaxInt64, 1 << 32, -9} {
			for place := range 16 {
				digits := slices.Repeat([]int64{5}, 16)
				digits[place] = bad
				if got, fine := impl.LanePack(weight, digits); got != 0 || fine {
					t.Fatalf("LanePack(%d, %v) = %x, %v", weight, digits, got, fine)
				}
			}
		}
	}
	for _, weight := range noWeightings {
		for _, digits := range [][]int64{nil, {1, 9, 4, 8}, make([]int64, 17), {10}} {
			if got, fine := impl.LanePack(weight, digits); got != 0 || fine {
				t.Fatalf("LanePack(%d, %v) = %x, %v", weight, digits, got, fine)
			}
		}
	}
}

func TestLanePackLeavesItsArgument(t *testing.T) {
	for _, weight := range append(slices.Clone(weightings), noWeightings...) {
		for _, cut := range []int{0, 1, 16, 17, 18} {
			room := []int64{1, 9, 4, 8, 0, 2, 3, 5, 6, 7, 7, 6, 5, 4, 3, 2, 10, -1, 42}
			kept := slices.Clone(room)
			impl.LanePack(weight, room[:cut])
			if !slices.Equal(room, kept) {
				t.Fatalf("LanePack(%d, ..) of %d digits writes: %v", weight, cut, room)
			}
		}
	}
}

func TestPackOfDigitsIsFirst(t *testing.T) {
	for _, word := range sampleWords() {
		for _, weight := range weightings {
			digits := digitsOf(weight, word)
			if digits == nil {
				continue
			}
			got, fine := impl.LanePack(weight, impl.LaneDigits(weight, word))
			if !fine || got != packOf(weight, digits) || !slices.Equal(impl.LaneDigits(weight, got), digits) {
				t.Fatalf("weighting %d, word %x: %x, %v", weight, word, got, fine)
			}
		}
	}
}

func TestRecode(t *testing.T) {
	for _, word := range sampleWords() {
		for _, from := range weightings {
			digits := digitsOf(from, word)
			for _, to := range weightings {
				got, fine := impl.Recode(from, to, word)
				if digits == nil {
					if got != 0 || fine {
						t.Fatalf("Recode(%d, %d, %x) = %x, %v", from, to, word, got, fine)
					}
					continue
				}
				if !fine || got != packOf(to, digits) || !slices.Equal(impl.LaneDigits(to, got), digits) {
					t.Fatalf("Recode(%d, %d, %x) = %x, %v", from, to, word, got, fine)
				}
			}
		}
	}
}

func TestRecodeByHand(t *testing.T) {
	for _, c := range []struct {
		from, to   int64
		word, want uint64
	}{
		{impl.WtPlain, impl.WtFour, 0x0000000123456789, 0x000000012367abef},
		{impl.WtPlain, impl.WtFive, 0x0000000123456789, 0x0000000135789bdf},
		{impl.WtFour, impl.WtFive, 0x4589cd, 0x35789b},
		{impl.WtFour, impl.WtFour, 0x4589cd, 0x2367ab},
		{impl.WtFive, impl.WtFive, 0x246ace, 0x1359bd},
		{impl.WtFive, impl.WtPlain, math.MaxUint64, 0x9999999999999999},
	} {
		if got, fine := impl.Recode(c.from, c.to, c.word); !fine || got != c.want {
			t.Errorf("Recode(%d, %d, %x) = %x, %v, not %x", c.from, c.to, c.word, got, fine, c.want)
		}
	}
}

func TestRecodeWrong(t *testing.T) {
	for _, word := range []uint64{0, 1, 0x1948, math.MaxUint64} {
		for _, none := range noWeightings {
			for _, other := range append(slices.Clone(weightings), noWeightings...) {
				if got, fine := impl.Recode(none, other, word); got != 0 || fine {
					t.Fatalf("Recode(%d, %d, %x) = %x, %v", none, other, word, got, fine)
				}
				if got, fine := impl.Recode(other, none, word); got != 0 || fine {
					t.Fatalf("Recode(%d, %d, %x) = %x, %v", other, none, word, got, fine)
				}
			}
		}
	}
}

func TestLaneAdd(t *testing.T) {
	const whole = 10000000000000000
	words := plainWords()
	for i, a := range words {
		for _, b := range []uint64{words[(i*7+3)%len(words)], words[len(words)-1-i], a, 0x9999999999999999 - a, 0} {
			for in, one := range map[bool]uint64{false: 0, true: 1} {
				want := numberOf(a) + numberOf(b) + one
				got, out, fine := impl.LaneAdd(a, b, in)
				if !fine || out != (want >= whole) || digitsOf(impl.WtPlain, got) == nil || numberOf(got) != want%whole {
					t.Fatalf("LaneAdd(%x, %x, %v) = %x, %v, %v", a, b, in, got, out, fine)
				}
			}
		}
	}
}

func TestLaneAddEdges(t *testing.T) {
	const nines = 0x9999999999999999
	for _, c := range []struct {
		a, b uint64
		in   bool
		sum  uint64
		out  bool
	}{
		{0, 0, false, 0, false},
		{0, 0, true, 1, false},
		{nines, 0, false, nines, false},
		{nines, 0, true, 0, true},
		{0, nines, true, 0, true},
		{nines, 1, false, 0, true},
		{nines, 1, true, 1, true},
		{nines, nines, false, 0x9999999999999998, true},
		{nines, nines, true, nines, true},
		{0x5000000000000000, 0x5000000000000000, false, 0, true},
		{0x5000000000000000, 0x4999999999999999, false, nines, false},
		{0x5000000000000000, 0x4999999999999999, true, 0, true},
		{0x1948, 0x52, false, 0x2000, false},
		{0x0999999999999999, 0, true, 0x1000000000000000, false},
	} {
		if sum, out, fine := impl.LaneAdd(c.a, c.b, c.in); !fine || sum != c.sum || out != c.out {
			t.Errorf("LaneAdd(%x, %x, %v) = %x, %v, %v", c.a, c.b, c.in, sum, out, fine)
		}
	}
}

func TestLaneAddWrong(t *testing.T) {
	for lane := range 16 {
		for bits := uint64(10); bits < 16; bits++ {
			bad := bits << (4 * lane)
			for _, pair := range [][2]uint64{{bad, 0}, {0, bad}, {bad, bad}, {bad, 0x9999999999999999}, {0x9999999999999999, bad}} {
				for _, in := range []bool{false, true} {
					if sum, out, fine := impl.LaneAdd(pair[0], pair[1], in); sum != 0 || out || fine {
						t.Fatalf("LaneAdd(%x, %x, %v) = %x, %v, %v", pair[0], pair[1], in, sum, out, fine)
					}
				}
			}
		}
	}
}

func TestNines(t *testing.T) {
	for _, word := range sampleWords() {
		digits := digitsOf(impl.WtPlain, word)
		got, fine := impl.Nines(word)
		if digits == nil {
			if got != 0 || fine {
				t.Fatalf("Nines(%x) = %x, %v", word, got, fine)
			}
			continue
		}
		for lane := range 16 {
			if !fine || got>>(4*lane)&15+word>>(4*lane)&15 != 9 {
				t.Fatalf("Nines(%x) = %x, %v", word, got, fine)
			}
		}
		if sum, out, is := impl.LaneAdd(word, got, false); sum != 0x9999999999999999 || out || !is {
			t.Fatalf("%x and its Nines are %x", word, sum)
		}
	}
	for word, want := range map[uint64]uint64{0: 0x9999999999999999, 0x9999999999999999: 0, 0x1948: 0x9999999999998051} {
		if got, fine := impl.Nines(word); got != want || !fine {
			t.Fatalf("Nines(%x) = %x, %v", word, got, fine)
		}
	}
}

func TestLaneShift(t *testing.T) {
	for _, word := range sampleWords() {
		up, down := word, word
		for n := range int64(20) {
			if n > 16 {
				up, down = 0, 0
			}
			if got := impl.LaneShift(word, n); got != up {
				t.Fatalf("LaneShift(%x, %d) = %x", word, n, got)
			}
			if got := impl.LaneShift(word, -n); got != down {
				t.Fatalf("LaneShift(%x, %d) = %x", word, -n, got)
			}
			up, down = up*16, down/16
		}
	}
}

func TestLaneShiftFar(t *testing.T) {
	far := []int64{17, -17, 32, -32, 64, -64, 1 << 32, -(1 << 32), 1 << 60, 1 << 62, -(1 << 62), 1<<62 + 1, math.MaxInt64, math.MinInt64, math.MinInt64 + 1}
	for _, n := range far {
		if got := impl.LaneShift(math.MaxUint64, n); got != 0 {
			t.Fatalf("LaneShift(.., %d) = %x", n, got)
		}
	}
	for n, want := range map[int64]uint64{0: 0xfedcba9876543210, 1: 0xedcba98765432100, 15: 0, -1: 0x0fedcba987654321, -15: 0xf, 16: 0, -16: 0} {
		if got := impl.LaneShift(0xfedcba9876543210, n); got != want {
			t.Fatalf("LaneShift(.., %d) = %x", n, got)
		}
	}
}

func TestLead(t *testing.T) {
	if got := impl.Lead(0); got != 16 {
		t.Fatalf("Lead(0) = %d", got)
	}
	for lane := range 16 {
		for bits := uint64(1); bits < 16; bits++ {
			below := uint64(1)<<(4*lane) - 1
			for _, rest := range []uint64{0, below, below & 0x9090909090909090} {
				word := bits<<(4*lane) | rest
				if got := impl.Lead(word); got != int64(15-lane) {
					t.Fatalf("Lead(%x) = %d", word, got)
				}
			}
		}
	}
	if impl.Lead(0x1948) != 12 || impl.Lead(math.MaxUint64) != 0 {
		t.Fatal("Lead of ordinary words")
	}
}
