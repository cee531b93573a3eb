package tests

import (
	"fmt"
	"math"
	"math/big"
	"testing"

	"loop.example/g00085/impl"
)

const allNines = 0x9999999999999999

type multiple struct {
	word   uint64
	leaves int64
	fine   bool
}

func (m multiple) String() string {
	return fmt.Sprintf("%x, %d, %v", m.word, m.leaves, m.fine)
}

var refusedMultiple = multiple{}

func doubleOf(word uint64) multiple {
	got, leaves, fine := impl.Double(word)
	return multiple{got, leaves, fine}
}

func fiveOf(word uint64) multiple {
	got, leaves, fine := impl.Five(word)
	return multiple{got, leaves, fine}
}

func multipleOf(word uint64, k int64) multiple {
	got, leaves, fine := impl.Multiple(word, k)
	return multiple{got, leaves, fine}
}

func signedMultipleOf(word uint64, k int64) multiple {
	got, leaves, fine := impl.SignedMultiple(word, k)
	return multiple{got, leaves, fine}
}

// reckoned is k times a plain word by whole numbers: what is left of it modulo
// 10 to the 16, and how often that went into it, rounded down.
func reckoned(word uint64, k int64) multiple {
	whole := new(big.Int).Mul(bigOf(digitsOf(impl.WtPlain, word)), big.NewInt(k))
	times, left := new(big.Int).DivMod(whole, tenTo(16), new(big.Int))
	return multiple{packOf(impl.WtPlain, digitsOfBig(left, 16)), times.Int64(), true}
}

// multipleWords are plain words: the samples of the lanes; each digit alone in
// each lane, and through the whole word; odd and even digits by turns; words
// whose multiples run through all lanes; mixtures of odd digits and of even ones.
func multipleWords() []uint64 {
	words := append(plainWords(),
		0, 1, allNines, 0x9000000000000000, 0x3333333333333334, 0x1666666666666667,
		0x1111111111111112, 0x1428571428571429, 0x5000000000000000, 0x2000000000000000, 0x2500000000000000,
		0x1010101010101010, 0x0101010101010101, 0x9090909090909090, 0x0909090909090909,
		0x1357913579135791, 0x2468024680246802, 0x8888888888888888, 0x4999999999999999, 0x4949494949494949)
	for digit := range uint64(10) {
		through := uint64(0)
		for lane := range 16 {
			words = append(words, digit<<(4*lane))
			through |= digit << (4 * lane)
		}
		words = append(words, through)
	}
	state := uint64(11)
	for range 300 {
		odd, even := uint64(0), uint64(0)
		for range 16 {
			state = state*6364136223846793005 + 1442695040888963407
			odd = odd*16 + state>>33%5*2 + 1
			even = even*16 + state>>33%5*2
		}
		words = append(words, odd, even)
	}
	return words
}

// brokenWords have one lane that is not valid, lane 0 and lane 15 and those
// between, with noughts, nines or ones in the others.
func brokenWords() []uint64 {
	words := []uint64{0xaaaaaaaaaaaaaaaa, math.MaxUint64, 0xfedcba9876543210}
	for lane := range 16 {
		for bits := uint64(10); bits < 16; bits++ {
			for _, others := range []uint64{0, allNines, 0x1111111111111111} {
				words = append(words, others&^(15<<(4*lane))|bits<<(4*lane))
			}
		}
	}
	return words
}

// farNumbers are out of every range of k.
var farNumbers = []int64{
	11, 12, 20, 100, 255, 256, 1 << 32, 1<<32 + 1, -11, -100, -256, -1 << 32,
	math.MinInt64, math.MinInt64 + 1, math.MaxInt64, math.MaxInt64 - 1,
}

func checkMultiples(t *testing.T, word uint64) {
	t.Helper()
	for k := int64(0); k <= 10; k++ {
		want := reckoned(word, k)
		if got := multipleOf(word, k); got != want {
			t.Fatalf("Multiple(%x, %d) = %v, not %v", word, k, got, want)
		}
	}
	if got := doubleOf(word); got != reckoned(word, 2) || got != multipleOf(word, 2) || got.leaves > 1 {
		t.Fatalf("Double(%x) = %v", word, got)
	}
	if got := fiveOf(word); got != reckoned(word, 5) || got != multipleOf(word, 5) || got.leaves > 4 {
		t.Fatalf("Five(%x) = %v", word, got)
	}
}

func checkSignedMultiples(t *testing.T, word uint64) {
	t.Helper()
	for k := int64(-5); k <= 5; k++ {
		want := reckoned(word, k)
		if got := signedMultipleOf(word, k); got != want {
			t.Fatalf("SignedMultiple(%x, %d) = %v, not %v", word, k, got, want)
		}
	}
}

func TestMultiplesAreThatManyTimes(t *testing.T) {
	for _, word := range multipleWords() {
		checkMultiples(t, word)
		checkSignedMultiples(t, word)
	}
}

// TestMultiplesOfEachThreeLanes goes through all neighbours that a lane can
// have, at the low end, in the middle and at the high end.
func TestMultiplesOfEachThreeLanes(t *testing.T) {
	for number := range uint64(1000) {
		three := number/100<<8 | number/10%10<<4 | number%10
		for _, shift := range []int{0, 24, 52} {
			checkMultiples(t, three<<shift)
			checkSignedMultiples(t, three<<shift)
		}
	}
}

func TestDoubleByHand(t *testing.T) {
	for _, c := range []struct {
		word uint64
		want multiple
	}{
		{0, multiple{0, 0, true}},
		{4, multiple{8, 0, true}},
		{5, multiple{0x10, 0, true}},
		{9, multiple{0x18, 0, true}},
		{0x4000000000000000, multiple{0x8000000000000000, 0, true}},
		{0x5000000000000000, multiple{0, 1, true}},
		{0x9000000000000000, multiple{0x8000000000000000, 1, true}},
		{0x4999999999999999, multiple{0x9999999999999998, 0, true}},
		{allNines, multiple{0x9999999999999998, 1, true}},
		{0x0123456789012345, multiple{0x0246913578024690, 0, true}},
	} {
		if got := doubleOf(c.word); got != c.want {
			t.Errorf("Double(%x) = %v, not %v", c.word, got, c.want)
		}
	}
}

func TestFiveByHand(t *testing.T) {
	for _, c := range []struct {
		word uint64
		want multiple
	}{
		{0, multiple{0, 0, true}},
		{1, multiple{5, 0, true}},
		{2, multiple{0x10, 0, true}},
		{9, multiple{0x45, 0, true}},
		{0x1000000000000000, multiple{0x5000000000000000, 0, true}},
		{0x2000000000000000, multiple{0, 1, true}},
		{0x9000000000000000, multiple{0x5000000000000000, 4, true}},
		{allNines, multiple{0x9999999999999995, 4, true}},
		{0x9000000000000037, multiple{0x5000000000000185, 4, true}},
		{0x1111111111111111, multiple{0x5555555555555555, 0, true}},
		{0x1357913579135791, multiple{0x6789567895678955, 0, true}},
		{0x2468024680246802, multiple{0x2340123401234010, 1, true}},
		{0x8888888888888888, multiple{0x4444444444444440, 4, true}},
	} {
		if got := fiveOf(c.word); got != c.want {
			t.Errorf("Five(%x) = %v, not %v", c.word, got, c.want)
		}
	}
}

func TestMultipleByHand(t *testing.T) {
	for _, c := range []struct {
		word uint64
		k    int64
		want multiple
	}{
		{0, 0, multiple{0, 0, true}},
		{0, 10, multiple{0, 0, true}},
		{allNines, 0, multiple{0, 0, true}},
		{allNines, 1, multiple{allNines, 0, true}},
		{allNines, 9, multiple{0x9999999999999991, 8, true}},
		{allNines, 10, multiple{0x9999999999999990, 9, true}},
		{9, 9, multiple{0x81, 0, true}},
		{9, 10, multiple{0x90, 0, true}},
		{0x9000000000000000, 9, multiple{0x1000000000000000, 8, true}},
		{0x9000000000000000, 10, multiple{0, 9, true}},
		{0x1948, 7, multiple{0x13636, 0, true}},
		{0x3333333333333334, 3, multiple{2, 1, true}},
		{0x3333333333333333, 3, multiple{allNines, 0, true}},
		{0x2500000000000000, 4, multiple{0, 1, true}},
		{0x1666666666666667, 6, multiple{2, 1, true}},
		{0x1250000000000000, 8, multiple{0, 1, true}},
	} {
		if got := multipleOf(c.word, c.k); got != c.want {
			t.Errorf("Multiple(%x, %d) = %v, not %v", c.word, c.k, got, c.want)
		}
	}
}

func TestSignedMultipleByHand(t *testing.T) {
	for _, c := range []struct {
		word uint64
		k    int64
		want multiple
	}{
		// Nothing but 0, and nothing that leaves.
		{0, -1, multiple{0, 0, true}},
		{0, -5, multiple{0, 0, true}},
		// The word is 0, and something leaves.
		{0x5000000000000000, -2, multiple{0, -1, true}},
		{0x2500000000000000, -4, multiple{0, -1, true}},
		{0x2000000000000000, -5, multiple{0, -1, true}},
		{0x8000000000000000, -5, multiple{0, -4, true}},
		// The word is not 0.
		{2, -3, multiple{0x9999999999999994, -1, true}},
		{1, -1, multiple{allNines, -1, true}},
		{0x50, -1, multiple{0x9999999999999950, -1, true}},
		{allNines, -1, multiple{1, -1, true}},
		{allNines, -5, multiple{5, -5, true}},
		{0x9000000000000000, -1, multiple{0x1000000000000000, -1, true}},
		{0x9000000000000000, -5, multiple{0x5000000000000000, -5, true}},
		{9, -5, multiple{0x9999999999999955, -1, true}},
		// As Multiple.
		{allNines, 0, multiple{0, 0, true}},
		{allNines, 1, multiple{allNines, 0, true}},
		{allNines, 5, multiple{0x9999999999999995, 4, true}},
	} {
		if got := signedMultipleOf(c.word, c.k); got != c.want {
			t.Errorf("SignedMultiple(%x, %d) = %v, not %v", c.word, c.k, got, c.want)
		}
	}
}

// TestSignedMultiplesTogetherAreNought adds a multiple to the one with the other
// sign, as words by LaneAdd and as what leaves.
func TestSignedMultiplesTogetherAreNought(t *testing.T) {
	for _, word := range multipleWords() {
		for k := int64(0); k <= 5; k++ {
			up, down := signedMultipleOf(word, k), signedMultipleOf(word, -k)
			sum, out, fine := impl.LaneAdd(up.word, down.word, false)
			leaves := up.leaves + down.leaves
			if out {
				leaves++
			}
			if !up.fine || !down.fine || !fine || sum != 0 || leaves != 0 {
				t.Fatalf("%d and %d times %x: %v and %v", k, -k, word, up, down)
			}
			if up != multipleOf(word, k) {
				t.Fatalf("SignedMultiple(%x, %d) = %v, not as Multiple", word, k, up)
			}
		}
	}
}

func TestMultiplesOfBrokenWords(t *testing.T) {
	for _, word := range brokenWords() {
		if got := doubleOf(word); got != refusedMultiple {
			t.Fatalf("Double(%x) = %v", word, got)
		}
		if got := fiveOf(word); got != refusedMultiple {
			t.Fatalf("Five(%x) = %v", word, got)
		}
		ks := append([]int64{}, farNumbers...)
		for k := int64(-10); k <= 10; k++ {
			ks = append(ks, k)
		}
		for _, k := range ks {
			if got := multipleOf(word, k); got != refusedMultiple {
				t.Fatalf("Multiple(%x, %d) = %v", word, k, got)
			}
			if got := signedMultipleOf(word, k); got != refusedMultiple {
				t.Fatalf("SignedMultiple(%x, %d) = %v", word, k, got)
			}
		}
	}
}

func TestMultiplesOutOfRange(t *testing.T) {
	for _, word := range []uint64{0, 1, 9, 0x9000000000000000, 0x5000000000000000, 0x1948, allNines} {
		for _, k := range append([]int64{-1, -2, -5, -6, -10}, farNumbers...) {
			if got := multipleOf(word, k); got != refusedMultiple {
				t.Fatalf("Multiple(%x, %d) = %v", word, k, got)
			}
		}
		for _, k := range append([]int64{-6, 6, -7, 7, -9, 9, -10, 10}, farNumbers...) {
			if got := signedMultipleOf(word, k); got != refusedMultiple {
				t.Fatalf("SignedMultiple(%x, %d) = %v", word, k, got)
			}
		}
	}
}
