package tests

import (
	"math"
	"slices"
	"testing"

	"loop.example/g00085/impl"
)

// sixteenth is 10 to the 16, what a bit that leaves a word at the high end
// stands for.
const sixteenth = 10000000000000000

// standsFor is what a word stands for in a weighting in which every lane is
// valid.
func standsFor(weight int64, word uint64) uint64 {
	number := uint64(0)
	for _, digit := range digitsOf(weight, word) {
		number = number*10 + uint64(digit)
	}
	return number
}

// threes are words to be saved together: each sample with others far and near.
func threes() [][3]uint64 {
	words := sampleWords()
	all := [][3]uint64{}
	for i, word := range words {
		far, other := words[(i*7+3)%len(words)], words[len(words)-1-i]
		all = append(all,
			[3]uint64{word, far, other}, [3]uint64{word, word, word}, [3]uint64{word, word, far},
			[3]uint64{word, 0, 0}, [3]uint64{0, word, far}, [3]uint64{word, math.MaxUint64, other},
			[3]uint64{math.MaxUint64, word, math.MaxUint64}, [3]uint64{word, ^word, far})
	}
	return all
}

// carryOf is the carry of three words bit by bit, told from the chapter with
// the tests' own table of first forms.
func carryOf(a, b, c uint64) (uint64, uint64) {
	h := uint64(0)
	for bit := range 64 {
		if a>>bit&1+b>>bit&1+c>>bit&1 >= 2 {
			h |= 1 << bit
		}
	}
	five := packOf(impl.WtFive, digitsOf(impl.WtFour, h))
	return five << 1, five >> 63
}

func sumOf(a, b, c uint64) uint64 {
	sum := uint64(0)
	for bit := range 64 {
		ones := a>>bit&1 + b>>bit&1 + c>>bit&1
		if ones == 1 || ones == 3 {
			sum |= 1 << bit
		}
	}
	return sum
}

func TestTwice(t *testing.T) {
	for _, word := range sampleWords() {
		got, leaves := impl.Twice(word)
		if leaves > 1 || 2*standsFor(impl.WtFive, word) != standsFor(impl.WtFour, got)+sixteenth*leaves {
			t.Fatalf("Twice(%x) = %x, %d", word, got, leaves)
		}
		if got != word*2 || leaves != word>>63 {
			t.Fatalf("Twice(%x) = %x, %d: not its bits one place higher", word, got, leaves)
		}
	}
}

func TestTwiceByHand(t *testing.T) {
	for _, c := range []struct{ word, want, leaves uint64 }{
		{0, 0, 0},
		{1, 2, 0},
		{8, 0x10, 0},
		{0x8000000000000000, 0, 1},
		{0x7fffffffffffffff, 0xfffffffffffffffe, 0},
		{math.MaxUint64, 0xfffffffffffffffe, 1},
		{0x4000000000000000, 0x8000000000000000, 0},
		{0x8000000000000008, 0x10, 1},
		{0x159bdf, 0x2b37be, 0},
	} {
		if got, leaves := impl.Twice(c.word); got != c.want || leaves != c.leaves {
			t.Errorf("Twice(%x) = %x, %d, not %x, %d", c.word, got, leaves, c.want, c.leaves)
		}
	}
}

func TestSave(t *testing.T) {
	for _, w := range threes() {
		sum, carry, leaves := impl.Save(w[0], w[1], w[2])
		all := standsFor(impl.WtFour, w[0]) + standsFor(impl.WtFour, w[1]) + standsFor(impl.WtFour, w[2])
		if leaves > 1 || standsFor(impl.WtFour, sum)+standsFor(impl.WtFour, carry)+sixteenth*leaves != all {
			t.Fatalf("Save(%x) = %x, %x, %d", w, sum, carry, leaves)
		}
		wantCarry, wantLeaves := carryOf(w[0], w[1], w[2])
		if sum != sumOf(w[0], w[1], w[2]) || carry != wantCarry || leaves != wantLeaves {
			t.Fatalf("Save(%x) = %x, %x, %d, not %x, %d", w, sum, carry, leaves, wantCarry, wantLeaves)
		}
	}
}

func TestSaveByHand(t *testing.T) {
	const ones = math.MaxUint64
	for _, c := range []struct{ a, b, c, sum, carry, leaves uint64 }{
		{0, 0, 0, 0, 0, 0},
		{1, 2, 4, 7, 0, 0},
		{1, 1, 0, 0, 2, 0},
		{1, 0, 1, 0, 2, 0},
		{0, 1, 1, 0, 2, 0},
		{1, 1, 1, 1, 2, 0},
		{0xf, 0xf, 0xf, 0xf, 0x1e, 0},
		// From here on h is a lane whose first form in WtFive has other bits:
		// 2 is 3 there, 4 is 7, 5 is 8 and 6 is 9.
		{2, 2, 0, 0, 6, 0},
		{4, 4, 0, 0, 6, 0},
		{6, 6, 0, 0, 0xe, 0},
		{8, 8, 0, 0, 0xe, 0},
		{5, 5, 0, 0, 0xa, 0},
		{9, 9, 0, 0, 0x10, 0},
		{7, 7, 0, 0, 0x10, 0},
		{0xa, 0xa, 0, 0, 0x12, 0},
		{0xc, 0xc, 1, 1, 0x12, 0},
		{0xb, 0xd, 0, 6, 0x10, 0},
		{ones, ones, 0, 0, 0xfffffffffffffffe, 1},
		{ones, ones, ones, ones, 0xfffffffffffffffe, 1},
		{ones, 0, 0, ones, 0, 0},
		{0x7000000000000000, 0x7000000000000000, 0, 0, 0, 1},
		{0x6000000000000000, 0x6000000000000000, 0, 0, 0xe000000000000000, 0},
		{0x8000000000000000, 0, 0x8000000000000000, 0, 0xe000000000000000, 0},
	} {
		sum, carry, leaves := impl.Save(c.a, c.b, c.c)
		if sum != c.sum || carry != c.carry || leaves != c.leaves {
			t.Errorf("Save(%x, %x, %x) = %x, %x, %d, not %x, %x, %d", c.a, c.b, c.c, sum, carry, leaves, c.sum, c.carry, c.leaves)
		}
	}
}

func TestSaveAll(t *testing.T) {
	words := sampleWords()
	for size := range impl.MaxRows + 1 {
		for from := 0; from+size <= len(words); from += 37 {
			some := words[from : from+size]
			sum, carry, count := impl.SaveAll(some)
			wantSum, wantCarry, wantCount := uint64(0), uint64(0), int64(0)
			whole := uint64(0)
			for _, word := range some {
				next := sumOf(wantSum, wantCarry, word)
				left := uint64(0)
				wantCarry, left = carryOf(wantSum, wantCarry, word)
				wantSum, wantCount = next, wantCount+int64(left)
				whole += standsFor(impl.WtFour, word)
			}
			if sum != wantSum || carry != wantCarry || count != wantCount {
				t.Fatalf("SaveAll of %d from %d: %x, %x, %d", size, from, sum, carry, count)
			}
			if standsFor(impl.WtFour, sum)+standsFor(impl.WtFour, carry)+sixteenth*uint64(count) != whole {
				t.Fatalf("SaveAll of %d from %d does not stand for them all", size, from)
			}
			word, times := impl.Settle(sum, carry, count)
			if digitsOf(impl.WtPlain, word) == nil || numberOf(word) != whole%sixteenth || times != int64(whole/sixteenth) {
				t.Fatalf("settled, %d from %d: %x, %d", size, from, word, times)
			}
		}
	}
}

func TestSaveAllEdges(t *testing.T) {
	for _, none := range [][]uint64{nil, {}, make([]uint64, 0, 9)} {
		if sum, carry, count := impl.SaveAll(none); sum != 0 || carry != 0 || count != 0 {
			t.Fatalf("SaveAll of none: %x, %x, %d", sum, carry, count)
		}
	}
	if sum, carry, count := impl.SaveAll([]uint64{0x1948}); sum != 0x1948 || carry != 0 || count != 0 {
		t.Fatalf("SaveAll of one: %x, %x, %d", sum, carry, count)
	}
	full := slices.Repeat([]uint64{math.MaxUint64}, impl.MaxRows)
	word, times := impl.Settle(impl.SaveAll(full))
	if word != 0x9999999999999936 || times != 63 {
		t.Fatalf("MaxRows words of nines: %x, %d", word, times)
	}
	for _, size := range []int{impl.MaxRows + 1, 100, 1000} {
		for _, each := range []uint64{0, 1, math.MaxUint64} {
			if sum, carry, count := impl.SaveAll(slices.Repeat([]uint64{each}, size)); sum != 0 || carry != 0 || count != 0 {
				t.Fatalf("SaveAll of %d words %x: %x, %x, %d", size, each, sum, carry, count)
			}
		}
	}
}

func TestSaveAllLeavesItsArgument(t *testing.T) {
	for _, cut := range []int{0, 1, 3, impl.MaxRows, impl.MaxRows + 1} {
		room := slices.Clone(sampleWords()[:impl.MaxRows+9])
		kept := slices.Clone(room)
		impl.SaveAll(room[:cut])
		if !slices.Equal(room, kept) {
			t.Fatalf("SaveAll of %d words writes", cut)
		}
	}
}

func TestSettle(t *testing.T) {
	words := sampleWords()
	counts := []int64{0, 1, 2, 63, impl.MaxRows, impl.MaxRows + 1, impl.MaxRows*2 - 1, impl.MaxRows * 2}
	for i, sum := range words {
		for _, carry := range []uint64{words[(i*11+5)%len(words)], sum, ^sum, 0, math.MaxUint64} {
			whole := standsFor(impl.WtFour, sum) + standsFor(impl.WtFour, carry)
			for _, count := range counts {
				word, times := impl.Settle(sum, carry, count)
				if digitsOf(impl.WtPlain, word) == nil || numberOf(word) != whole%sixteenth || times != count+int64(whole/sixteenth) {
					t.Fatalf("Settle(%x, %x, %d) = %x, %d", sum, carry, count, word, times)
				}
			}
		}
	}
}

func TestSettleByHand(t *testing.T) {
	const ones = math.MaxUint64
	for _, c := range []struct {
		sum, carry uint64
		count      int64
		word       uint64
		times      int64
	}{
		{0, 0, 0, 0, 0},
		{0, 0, 128, 0, 128},
		{0xf, 0x1e, 0, 0x27, 0},
		{0x4589cd, 0, 5, 0x234567, 5},
		{ones, 0, 0, 0x9999999999999999, 0},
		{ones, 1, 0, 0, 1},
		{1, ones, 7, 0, 8},
		{ones, 2, 0, 1, 1},
		{ones, ones, 0, 0x9999999999999998, 1},
		{ones, ones, 128, 0x9999999999999998, 129},
		{ones, 1, 128, 0, 129},
		{0x9000000000000000, 0x7000000000000000, 0, 0, 1},
		{0x9000000000000000, 0x5fffffffffffffff, 3, 0x8999999999999999, 3},
	} {
		if word, times := impl.Settle(c.sum, c.carry, c.count); word != c.word || times != c.times {
			t.Errorf("Settle(%x, %x, %d) = %x, %d, not %x, %d", c.sum, c.carry, c.count, word, times, c.word, c.times)
		}
	}
}

func TestSettleWrong(t *testing.T) {
	for _, count := range []int64{-1, -2, -128, 129, 130, 1 << 32, 1<<32 + 1, math.MinInt64, math.MinInt64 + 1, math.MaxInt64} {
		for _, pair := range [][2]uint64{{0, 0}, {1, 2}, {math.MaxUint64, 1}, {math.MaxUint64, math.MaxUint64}} {
			if word, times := impl.Settle(pair[0], pair[1], count); word != 0 || times != 0 {
				t.Fatalf("Settle(%x, %x, %d) = %x, %d", pair[0], pair[1], count, word, times)
			}
		}
	}
}

func TestSaveZero(t *testing.T) {
	words := sampleWords()
	for i, sum := range words {
		// The tens' complement, in each lane's first form, makes 10 to the 16.
		rest := sixteenth - standsFor(impl.WtFour, sum)
		plain := []int64{}
		for range 16 {
			plain = append([]int64{int64(rest % 10)}, plain...)
			rest /= 10
		}
		even := packOf(impl.WtFour, plain)
		for _, carry := range []uint64{even, even ^ 1, words[(i*13+1)%len(words)], ^sum, 0, 1} {
			whole := standsFor(impl.WtFour, sum) + standsFor(impl.WtFour, carry)
			want := whole == 0 || whole == sixteenth
			if impl.SaveZero(sum, carry) != want || impl.SaveZero(carry, sum) != want {
				t.Fatalf("SaveZero of %x, %x is not %v", sum, carry, want)
			}
		}
	}
}

func TestSaveZeroByHand(t *testing.T) {
	const ones = math.MaxUint64
	for _, c := range []struct {
		sum, carry uint64
		want       bool
	}{
		{0, 0, true},
		{0, 1, false},
		{ones, 1, true},
		{1, ones, true},
		{ones, 0, false},
		{ones, 2, false},
		{ones, ones, false},
		{ones ^ 1, 2, true},
		{ones ^ 1, 4, true},
		{ones ^ 1, 1, false},
		{0x5000000000000000, 0xb000000000000000, true},
		{0x5000000000000000, 0xa000000000000000, false},
		{0x5000000000000000, 0xd000000000000000, true},
		{0x7000000000000000, 0x9000000000000000, true},
		{0x7000000000000000, 0x7000000000000001, false},
	} {
		if got := impl.SaveZero(c.sum, c.carry); got != c.want {
			t.Errorf("SaveZero(%x, %x) = %v", c.sum, c.carry, got)
		}
	}
}
