package tests

import (
	"math"
	"math/big"
	"slices"
	"testing"

	"loop.example/g00085/impl"
)

// bigOf is what digits, signed or not, stand for.
func bigOf(digits []int64) *big.Int {
	number := new(big.Int)
	for _, digit := range digits {
		number.Mul(number, big.NewInt(10))
		number.Add(number, big.NewInt(digit))
	}
	return number
}

func tenTo(n int) *big.Int {
	return new(big.Int).Exp(big.NewInt(10), big.NewInt(int64(n)), nil)
}

// digitsOfBig writes a number modulo 10 to the size in so many digits.
func digitsOfBig(number *big.Int, size int) []int64 {
	rest := new(big.Int).Mod(number, tenTo(size))
	digits := make([]int64, size)
	for i := size - 1; i >= 0; i-- {
		low := new(big.Int)
		rest.QuoRem(rest, big.NewInt(10), low)
		digits[i] = low.Int64()
	}
	return digits
}

// digitLists are lists of the size with digits from least to most: each digit
// through the whole list, the outer two by turns, and mixtures.
func digitLists(size int, least, most int64) [][]int64 {
	span := uint64(most - least + 1)
	all := [][]int64{}
	for digit := least; digit <= most; digit++ {
		all = append(all, slices.Repeat([]int64{digit}, size))
	}
	state := uint64(size)*977 + span
	for range 60 {
		mixed, near := make([]int64, size), make([]int64, size)
		for i := range mixed {
			state = state*6364136223846793005 + 1442695040888963407
			mixed[i] = least + int64(state>>33%span)
			near[i] = min(most, max(least, int64(state>>40%3)-1+(least+most)/2))
		}
		all = append(all, mixed, near)
	}
	for i := range size {
		one := make([]int64, size)
		one[i] = most
		less := slices.Repeat([]int64{most}, size)
		less[i] = least
		all = append(all, one, less)
	}
	return all
}

// wordLists goes through all lists of the size with digits from least to most.
func wordLists(size int, least, most int64, visit func([]int64)) {
	list := slices.Repeat([]int64{least}, size)
	for {
		visit(slices.Clone(list))
		i := size - 1
		for i >= 0 && list[i] == most {
			list[i] = least
			i--
		}
		if i < 0 {
			return
		}
		list[i]++
	}
}

// noDigits are numbers that no list of digits from least to most may hold.
func noDigits(least, most int64) []int64 {
	return []int64{
		least - 1, most + 1, least - 10, most + 10, 100, -100, 1 << 32, 1<<32 + 1, -1 << 32, 256,
		math.MinInt64, math.MinInt64 + 1, math.MaxInt64,
	}
}

// spoilt are lists of the size in which one place, first, middle or last, holds
// a number that does not belong there.
func spoilt(size int, least, most int64) [][]int64 {
	all := [][]int64{}
	for _, wrong := range noDigits(least, most) {
		for _, place := range []int{0, size / 2, size - 1} {
			list := slices.Repeat([]int64{1}, size)
			list[place] = wrong
			all = append(all, list)
		}
	}
	return all
}

func checkSigned(t *testing.T, digits []int64) {
	t.Helper()
	signed, fine := impl.Signed(digits)
	if !fine || len(signed) != len(digits)+1 || bigOf(signed).Cmp(bigOf(digits)) != 0 {
		t.Fatalf("Signed(%v) = %v, %v", digits, signed, fine)
	}
	for _, digit := range signed {
		if digit < -5 || digit > 5 {
			t.Fatalf("Signed(%v) = %v: out of range", digits, signed)
		}
	}
	// Read the other way round: a place carries just where the rule says so,
	// by the carry that the place behind it gave.
	carry := int64(0)
	for i := len(digits) - 1; i >= 0; i-- {
		together := digits[i] + carry
		great := i > 0 && digits[i-1] >= 5
		carry = 0
		if together >= 6 || together == 5 && great {
			carry = 1
		}
		if signed[i+1] != together-10*carry {
			t.Fatalf("Signed(%v) = %v: place %d", digits, signed, i)
		}
	}
	if signed[0] != carry {
		t.Fatalf("Signed(%v) = %v: carry %d is left", digits, signed, carry)
	}
	plain, fine := impl.Plain(signed)
	if !fine || len(plain) != len(signed) || plain[0] != 0 || !slices.Equal(plain[1:], digits) {
		t.Fatalf("Plain of Signed(%v) = %v, %v", digits, plain, fine)
	}
}

func TestSigned(t *testing.T) {
	for size := 1; size <= 4; size++ {
		wordLists(size, 0, 9, func(digits []int64) { checkSigned(t, digits) })
	}
	for size := 1; size <= impl.MaxDigits; size++ {
		for _, digits := range digitLists(size, 0, 9) {
			checkSigned(t, digits)
		}
	}
}

func TestSignedByHand(t *testing.T) {
	for _, c := range []struct{ digits, want []int64 }{
		{[]int64{0}, []int64{0, 0}},
		{[]int64{4}, []int64{0, 4}},
		// No digit ahead counts as 0, so a lone 5 stays; at 6 it carries.
		{[]int64{5}, []int64{0, 5}},
		{[]int64{6}, []int64{1, -4}},
		{[]int64{9}, []int64{1, -1}},
		// A 5 behind a digit below 5, and behind one of at least 5.
		{[]int64{0, 5}, []int64{0, 0, 5}},
		{[]int64{4, 5}, []int64{0, 4, 5}},
		{[]int64{5, 5}, []int64{1, -4, -5}},
		{[]int64{6, 5}, []int64{1, -3, -5}},
		{[]int64{9, 5}, []int64{1, 0, -5}},
		// 5 and 6 made of a digit and a carry.
		{[]int64{4, 6}, []int64{0, 5, -4}},
		{[]int64{5, 6}, []int64{1, -4, -4}},
		{[]int64{4, 4, 6}, []int64{0, 4, 5, -4}},
		{[]int64{5, 4, 6}, []int64{1, -4, -5, -4}},
		{[]int64{4, 5, 6}, []int64{0, 5, -4, -4}},
		// 4 carries only where what is behind it does, and the 5 ahead counts
		// without its own carry.
		{[]int64{4, 5, 5}, []int64{0, 5, -4, -5}},
		{[]int64{0, 4, 4, 7, 0}, []int64{0, 0, 4, 5, -3, 0}},
		{[]int64{9, 9, 9}, []int64{1, 0, 0, -1}},
		{[]int64{0, 0, 7}, []int64{0, 0, 1, -3}},
		{[]int64{4, 7, 5, 9}, []int64{0, 5, -2, -4, -1}},
	} {
		if got, fine := impl.Signed(c.digits); !fine || !slices.Equal(got, c.want) {
			t.Errorf("Signed(%v) = %v, %v, not %v", c.digits, got, fine, c.want)
		}
	}
}

func TestSignedWrong(t *testing.T) {
	wrong := [][]int64{nil, {}, make([]int64, 0, 9), make([]int64, impl.MaxDigits+1), make([]int64, 1000)}
	for _, size := range []int{1, 2, 17, impl.MaxDigits} {
		wrong = append(wrong, spoilt(size, 0, 9)...)
	}
	for _, digits := range wrong {
		if got, fine := impl.Signed(digits); fine || len(got) != 0 {
			t.Fatalf("Signed(%v) = %v, %v", digits, got, fine)
		}
	}
}

func checkPlain(t *testing.T, signed []int64) {
	t.Helper()
	number := bigOf(signed)
	got, fine := impl.Plain(signed)
	if number.Sign() < 0 {
		if fine || len(got) != 0 {
			t.Fatalf("Plain(%v) = %v, %v: it is below 0", signed, got, fine)
		}
		return
	}
	if !fine || !slices.Equal(got, digitsOfBig(number, len(signed))) {
		t.Fatalf("Plain(%v) = %v, %v", signed, got, fine)
	}
}

func TestPlain(t *testing.T) {
	for size := 1; size <= 3; size++ {
		wordLists(size, -9, 9, func(signed []int64) { checkPlain(t, signed) })
	}
	for size := 1; size <= impl.MaxDigits+1; size++ {
		for _, signed := range digitLists(size, -9, 9) {
			checkPlain(t, signed)
			checkPlain(t, impl.Negate(signed))
		}
	}
}

func TestPlainByHand(t *testing.T) {
	nought := make([]int64, impl.MaxDigits+1)
	most := slices.Repeat([]int64{9}, impl.MaxDigits+1)
	least := slices.Repeat([]int64{-9}, impl.MaxDigits+1)
	least[0] = 1
	one := make([]int64, impl.MaxDigits+1)
	one[impl.MaxDigits] = 1
	for _, c := range []struct{ signed, want []int64 }{
		{[]int64{0}, []int64{0}},
		{[]int64{9}, []int64{9}},
		{[]int64{1, -9}, []int64{0, 1}},
		{[]int64{1, -1, 0}, []int64{0, 9, 0}},
		{[]int64{1, 0, 0, -1}, []int64{0, 9, 9, 9}},
		{[]int64{0, 5, -2, -4, -1}, []int64{0, 4, 7, 5, 9}},
		{nought, nought},
		{most, most},
		{least, one},
	} {
		if got, fine := impl.Plain(c.signed); !fine || !slices.Equal(got, c.want) {
			t.Errorf("Plain(%v) = %v, %v, not %v", c.signed, got, fine, c.want)
		}
	}
}

func TestPlainWrong(t *testing.T) {
	last := make([]int64, impl.MaxDigits+1)
	last[impl.MaxDigits] = -1
	wrong := [][]int64{
		nil, {}, make([]int64, 0, 9), make([]int64, impl.MaxDigits+2), make([]int64, 1000),
		{-1}, {-9}, {0, -1}, {-1, 9, 9}, {0, 0, -1, 9}, last, slices.Repeat([]int64{-9}, impl.MaxDigits+1),
	}
	for _, size := range []int{1, 2, 17, impl.MaxDigits + 1} {
		wrong = append(wrong, spoilt(size, -9, 9)...)
	}
	for _, signed := range wrong {
		if got, fine := impl.Plain(signed); fine || len(got) != 0 {
			t.Fatalf("Plain(%v) = %v, %v", signed, got, fine)
		}
	}
}

// flightOf follows the chapter word by word, a new list for each register at
// each digit.
func flightOf(signed []int64) ([]int64, []int64) {
	q, m := []int64{}, []int64{}
	for _, d := range signed {
		oldQ, oldM := slices.Clone(q), slices.Clone(m)
		if d >= 0 {
			q = append(slices.Clone(oldQ), d)
		} else {
			q = append(slices.Clone(oldM), 10+d)
		}
		if d > 0 {
			m = append(slices.Clone(oldQ), d-1)
		} else {
			m = append(slices.Clone(oldM), 9+d)
		}
	}
	return q, m
}

func checkFlight(t *testing.T, signed []int64) {
	t.Helper()
	q, m := impl.Flight(signed)
	wantQ, wantM := flightOf(signed)
	if !slices.Equal(q, wantQ) || !slices.Equal(m, wantM) {
		t.Fatalf("Flight(%v) = %v, %v, not %v, %v", signed, q, m, wantQ, wantM)
	}
	number := bigOf(signed)
	less := new(big.Int).Sub(number, big.NewInt(1))
	if !slices.Equal(q, digitsOfBig(number, len(signed))) || !slices.Equal(m, digitsOfBig(less, len(signed))) {
		t.Fatalf("Flight(%v) = %v, %v: not the number and one less", signed, q, m)
	}
}

func TestFlight(t *testing.T) {
	for size := 1; size <= 3; size++ {
		wordLists(size, -9, 9, func(signed []int64) { checkFlight(t, signed) })
	}
	wordLists(7, -1, 1, func(signed []int64) { checkFlight(t, signed) })
	for size := 1; size <= impl.MaxDigits; size++ {
		for _, signed := range digitLists(size, -9, 9) {
			checkFlight(t, signed)
		}
	}
}

func TestFlightByHand(t *testing.T) {
	for _, c := range []struct{ signed, q, m []int64 }{
		{nil, nil, nil},
		{[]int64{}, nil, nil},
		{[]int64{0}, []int64{0}, []int64{9}},
		{[]int64{1}, []int64{1}, []int64{0}},
		{[]int64{9}, []int64{9}, []int64{8}},
		{[]int64{-1}, []int64{9}, []int64{8}},
		{[]int64{-9}, []int64{1}, []int64{0}},
		{[]int64{1, -9}, []int64{0, 1}, []int64{0, 0}},
		{[]int64{3, -2, 0}, []int64{2, 8, 0}, []int64{2, 7, 9}},
		{[]int64{3, 0, 0, -1}, []int64{2, 9, 9, 9}, []int64{2, 9, 9, 8}},
		{[]int64{3, 0, 0, 1}, []int64{3, 0, 0, 1}, []int64{3, 0, 0, 0}},
		{[]int64{0, 0, 0}, []int64{0, 0, 0}, []int64{9, 9, 9}},
		{[]int64{-1, 1}, []int64{9, 1}, []int64{9, 0}},
		{make([]int64, impl.MaxDigits), make([]int64, impl.MaxDigits), slices.Repeat([]int64{9}, impl.MaxDigits)},
	} {
		if q, m := impl.Flight(c.signed); !slices.Equal(q, c.q) || !slices.Equal(m, c.m) {
			t.Errorf("Flight(%v) = %v, %v, not %v, %v", c.signed, q, m, c.q, c.m)
		}
	}
}

func TestFlightWrong(t *testing.T) {
	wrong := [][]int64{make([]int64, impl.MaxDigits+1), make([]int64, impl.MaxDigits+2), make([]int64, 1000)}
	for _, size := range []int{1, 2, 17, impl.MaxDigits} {
		wrong = append(wrong, spoilt(size, -9, 9)...)
	}
	for _, signed := range wrong {
		if q, m := impl.Flight(signed); len(q) != 0 || len(m) != 0 {
			t.Fatalf("Flight(%v) = %v, %v", signed, q, m)
		}
	}
}

func TestNegate(t *testing.T) {
	for size := 1; size <= impl.MaxDigits+1; size++ {
		for _, signed := range digitLists(size, -9, 9) {
			got := impl.Negate(signed)
			if len(got) != len(signed) {
				t.Fatalf("Negate(%v) = %v", signed, got)
			}
			for i, digit := range signed {
				if got[i] != 0-digit {
					t.Fatalf("Negate(%v) = %v", signed, got)
				}
			}
			if bigOf(got).Cmp(new(big.Int).Neg(bigOf(signed))) != 0 || !slices.Equal(impl.Negate(got), signed) {
				t.Fatalf("Negate(%v) = %v: the sign alone turns", signed, got)
			}
			if size > 18 {
				continue
			}
			weight, fine := impl.Weight(signed)
			other, also := impl.Weight(got)
			if !fine || !also || other != -weight {
				t.Fatalf("Negate(%v) weighs %d, not %d", signed, other, -weight)
			}
		}
	}
}

func TestNegateEdges(t *testing.T) {
	for _, none := range [][]int64{nil, {}, make([]int64, 0, 9)} {
		if got := impl.Negate(none); len(got) != 0 {
			t.Fatalf("Negate of none: %v", got)
		}
	}
	if got := impl.Negate([]int64{9, -9, 0, 1, -1}); !slices.Equal(got, []int64{-9, 9, 0, -1, 1}) {
		t.Fatalf("Negate: %v", got)
	}
	wrong := [][]int64{make([]int64, impl.MaxDigits+2), make([]int64, 1000)}
	for _, size := range []int{1, 2, 17, impl.MaxDigits + 1} {
		wrong = append(wrong, spoilt(size, -9, 9)...)
	}
	for _, signed := range wrong {
		if got := impl.Negate(signed); len(got) != 0 {
			t.Fatalf("Negate(%v) = %v", signed, got)
		}
	}
}

func TestWeight(t *testing.T) {
	for size := 1; size <= 18; size++ {
		for _, signed := range digitLists(size, -9, 9) {
			got, fine := impl.Weight(signed)
			if !fine || big.NewInt(got).Cmp(bigOf(signed)) != 0 {
				t.Fatalf("Weight(%v) = %d, %v", signed, got, fine)
			}
		}
	}
	wordLists(3, -9, 9, func(signed []int64) {
		if got, fine := impl.Weight(signed); !fine || got != signed[0]*100+signed[1]*10+signed[2] {
			t.Fatalf("Weight(%v) = %d, %v", signed, got, fine)
		}
	})
}

func TestWeightEdges(t *testing.T) {
	for _, c := range []struct {
		signed []int64
		want   int64
	}{
		{nil, 0},
		{[]int64{}, 0},
		{[]int64{0}, 0},
		{[]int64{-9}, -9},
		{[]int64{1, -9}, 1},
		{[]int64{3, -2, 0}, 280},
		{make([]int64, 18), 0},
		{slices.Repeat([]int64{9}, 18), 999999999999999999},
		{slices.Repeat([]int64{-9}, 18), -999999999999999999},
	} {
		if got, fine := impl.Weight(c.signed); !fine || got != c.want {
			t.Errorf("Weight(%v) = %d, %v, not %d", c.signed, got, fine, c.want)
		}
	}
	wrong := [][]int64{make([]int64, 19), slices.Repeat([]int64{1}, 19), make([]int64, impl.MaxDigits), make([]int64, 1000)}
	for _, size := range []int{1, 2, 17, 18} {
		wrong = append(wrong, spoilt(size, -9, 9)...)
	}
	for _, signed := range wrong {
		if got, fine := impl.Weight(signed); fine || got != 0 {
			t.Errorf("Weight(%v) = %d, %v", signed, got, fine)
		}
	}
}

// signedCalls are the lists that each function of the layer answers with.
var signedCalls = map[string]func([]int64) [][]int64{
	"Signed": func(list []int64) [][]int64 { got, _ := impl.Signed(list); return [][]int64{got} },
	"Plain":  func(list []int64) [][]int64 { got, _ := impl.Plain(list); return [][]int64{got} },
	"Flight": func(list []int64) [][]int64 { q, m := impl.Flight(list); return [][]int64{q, m} },
	"Negate": func(list []int64) [][]int64 { return [][]int64{impl.Negate(list)} },
	"Weight": func(list []int64) [][]int64 { impl.Weight(list); return nil },
}

// copies are deep ones, to be held against the lists later.
func copies(lists [][]int64) [][]int64 {
	all := [][]int64{}
	for _, list := range lists {
		all = append(all, slices.Clone(list))
	}
	return all
}

// fillAll writes to each place of a list and to the spare room behind it.
func fillAll(list []int64) {
	room := list[:cap(list)]
	for i := range room {
		room[i] = 77
	}
}

func TestSignedLeavesItsArguments(t *testing.T) {
	for name, call := range signedCalls {
		for _, size := range []int{0, 1, 2, 18, 19, impl.MaxDigits, impl.MaxDigits + 1, impl.MaxDigits + 2} {
			for _, first := range []int64{0, 3, 9, -3} {
				room := slices.Repeat([]int64{0, 7, 5, 9, 1}, 12)
				room[0] = first
				kept := slices.Clone(room)
				call(room[:size])
				if !slices.Equal(room, kept) {
					t.Fatalf("%s of %d digits writes", name, size)
				}
			}
		}
	}
}

func TestSignedAnswersAreNewMemory(t *testing.T) {
	for name, call := range signedCalls {
		for _, list := range [][]int64{
			{}, {4}, {0}, {6, 5, 0, 9}, {0, 0, 0}, {3, -2, 0}, {1, -9, -9}, {-1}, {10}, make([]int64, 99),
			slices.Repeat([]int64{9}, impl.MaxDigits), slices.Repeat([]int64{9}, impl.MaxDigits+1),
		} {
			kept := slices.Clone(list)
			answers, again := call(list), call(list)
			want := copies(again)
			for i, answer := range answers {
				fillAll(answer)
				for j, other := range answers[i+1:] {
					if !slices.Equal(other, want[i+1+j]) {
						t.Fatalf("%s(%v): its lists share memory", name, kept)
					}
				}
			}
			if !slices.Equal(list, kept) {
				t.Fatalf("%s(%v): the answer shares memory with the argument", name, kept)
			}
			for i, answer := range again {
				if !slices.Equal(answer, want[i]) {
					t.Fatalf("%s(%v): two answers share memory", name, kept)
				}
			}
			for i, answer := range call(list) {
				if !slices.Equal(answer, want[i]) {
					t.Fatalf("%s(%v): what was written into an answer shows in a later one", name, kept)
				}
			}
		}
	}
}

// TestFlightRegistersStayApart writes the registers in either order, the spare
// room behind them too.
func TestFlightRegistersStayApart(t *testing.T) {
	for _, list := range [][]int64{{5}, {-5}, {0}, {1, 2, 3}, {-1, -2, -3}, {0, 0, 1}, {1, 0, 0}, slices.Repeat([]int64{2}, impl.MaxDigits)} {
		wantQ, wantM := flightOf(list)
		q, m := impl.Flight(list)
		fillAll(m)
		if !slices.Equal(q, wantQ) {
			t.Fatalf("Flight(%v): what is written into M shows in Q", list)
		}
		q, m = impl.Flight(list)
		fillAll(q)
		if !slices.Equal(m, wantM) {
			t.Fatalf("Flight(%v): what is written into Q shows in M", list)
		}
		q, m = impl.Flight(list)
		_, _ = append(q, 77, 77), append(m, 77, 77)
		if !slices.Equal(q, wantQ) || !slices.Equal(m, wantM) {
			t.Fatalf("Flight(%v): what is put behind a register shows in the other", list)
		}
	}
}
