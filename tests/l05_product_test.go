package tests

import (
	"fmt"
	"math"
	"math/big"
	"slices"
	"testing"

	"loop.example/g00085/impl"
)

const highOne = 0x1000000000000000

type product struct {
	high, low uint64
	fine      bool
}

func (p product) String() string {
	return fmt.Sprintf("%x %x, %v", p.high, p.low, p.fine)
}

type power struct {
	word uint64
	fine bool
}

func (p power) String() string {
	return fmt.Sprintf("%x, %v", p.word, p.fine)
}

func productOf(a, b uint64) product {
	high, low, fine := impl.Product(a, b)
	return product{high, low, fine}
}

func squareOf(a uint64) product {
	high, low, fine := impl.Square(a)
	return product{high, low, fine}
}

func powerOf(a uint64, n int64) power {
	word, fine := impl.PowerOf(a, n)
	return power{word, fine}
}

func wholeOf(plain uint64) *big.Int {
	return new(big.Int).SetUint64(numberOf(plain))
}

func plainOf(whole *big.Int) uint64 {
	return packOf(impl.WtPlain, digitsOfBig(whole, 16))
}

// reckonedProduct multiplies what the words stand for as whole numbers.
func reckonedProduct(a, b uint64) product {
	whole := new(big.Int).Mul(wholeOf(a), wholeOf(b))
	high, low := new(big.Int).QuoRem(whole, tenTo(16), new(big.Int))
	return product{plainOf(high), plainOf(low), true}
}

// edgeFactors are the words whose products the chapter's edges are made of.
var edgeFactors = []uint64{
	0, 1, 2, 9, 0x10, 0x34, 0x1948, allNines, 0x9999999999999998, 0x9999999999999990,
	highOne, 0x9000000000000000, 0x5000000000000000, 0x1000000000000001, 0x9000000000000009,
	0x99999999, 0x100000000, 0x100000001, 0x3333333333333333, 0x3333333333333334,
	0x1010101010101010, 0x0909090909090909, 0x1234567890123456, 0x9876543210987654,
}

// factorPairs are all pairs of the edges, and mixed words by their neighbours.
func factorPairs() [][2]uint64 {
	pairs := [][2]uint64{}
	for _, a := range edgeFactors {
		for _, b := range edgeFactors {
			pairs = append(pairs, [2]uint64{a, b})
		}
	}
	words := multipleWords()
	for i, a := range words {
		pairs = append(pairs, [2]uint64{a, words[(i*7+13)%len(words)]}, [2]uint64{a, allNines})
	}
	return pairs
}

// farSums makes a number of parts of which each weighs ten times the one ahead.
func farSums(parts []*big.Int) *big.Int {
	sum := new(big.Int)
	for _, part := range slices.Backward(parts) {
		sum.Mul(sum, big.NewInt(10))
		sum.Add(sum, part)
	}
	return sum
}

func TestProductIsThatOfTheNumbers(t *testing.T) {
	for _, pair := range factorPairs() {
		a, b := pair[0], pair[1]
		want := reckonedProduct(a, b)
		if got := productOf(a, b); got != want {
			t.Fatalf("Product(%x, %x) = %v, not %v", a, b, got, want)
		}
		if got := productOf(b, a); got != want {
			t.Fatalf("Product(%x, %x) = %v, not %v", b, a, got, want)
		}
	}
}

// TestProductOfEachDigitInEachLane: one digit by one digit, in any two lanes.
func TestProductOfEachDigitInEachLane(t *testing.T) {
	for places := range 256 {
		i, j := places/16, places%16
		for digits := range uint64(100) {
			a, b := digits/10<<(4*i), digits%10<<(4*j)
			if got, want := productOf(a, b), reckonedProduct(a, b); got != want {
				t.Fatalf("Product(%x, %x) = %v, not %v", a, b, got, want)
			}
			if got, want := impl.Column(a, b, int64(i+j)), int64(digits/10*(digits%10)); got != want {
				t.Fatalf("Column(%x, %x, %d) = %d, not %d", a, b, i+j, got, want)
			}
		}
	}
}

func TestProductByHand(t *testing.T) {
	for _, c := range []struct {
		a, b uint64
		want product
	}{
		{0, 0, product{0, 0, true}},
		{0, allNines, product{0, 0, true}},
		{0x1948, 0, product{0, 0, true}},
		{1, 1, product{0, 1, true}},
		{1, allNines, product{0, allNines, true}},
		{0x1948, 1, product{0, 0x1948, true}},
		{0x34, 0x12, product{0, 0x408, true}},
		{allNines, allNines, product{0x9999999999999998, 1, true}},
		// One digit in lane 0 by one in lane 15, and each by its like.
		{9, 0x9000000000000000, product{8, highOne, true}},
		{0x9000000000000000, 9, product{8, highOne, true}},
		{1, highOne, product{0, highOne, true}},
		{9, 9, product{0, 0x81, true}},
		{highOne, highOne, product{0x0100000000000000, 0, true}},
		{0x9000000000000000, 0x9000000000000000, product{0x8100000000000000, 0, true}},
		// These just fit one word.
		{3, 0x3333333333333333, product{0, allNines, true}},
		{0x99999999, 0x100000001, product{0, allNines, true}},
		// These just do not.
		{2, 0x5000000000000000, product{1, 0, true}},
		{0x100000000, 0x100000000, product{1, 0, true}},
		{3, 0x3333333333333334, product{1, 2, true}},
		{0x10, highOne, product{1, 0, true}},
		{allNines, 2, product{1, 0x9999999999999998, true}},
	} {
		if got := productOf(c.a, c.b); got != c.want {
			t.Errorf("Product(%x, %x) = %v, not %v", c.a, c.b, got, c.want)
		}
	}
}

func TestSquareIsProductByItself(t *testing.T) {
	for _, word := range append(multipleWords(), edgeFactors...) {
		got := squareOf(word)
		if got != productOf(word, word) || got != reckonedProduct(word, word) {
			t.Fatalf("Square(%x) = %v", word, got)
		}
	}
	for _, c := range []struct {
		word uint64
		want product
	}{
		{0, product{0, 0, true}},
		{1, product{0, 1, true}},
		{0x12, product{0, 0x144, true}},
		{0x99999999, product{0, 0x9999999800000001, true}},
		{0x100000000, product{1, 0, true}},
		{highOne, product{0x0100000000000000, 0, true}},
		{allNines, product{0x9999999999999998, 1, true}},
	} {
		if got := squareOf(c.word); got != c.want {
			t.Errorf("Square(%x) = %v, not %v", c.word, got, c.want)
		}
	}
}

// TestRowsMakeTheProduct: each row is the word of Multiple by its lane's digit;
// ten times farther each, with what leaves them, they are the product.
func TestRowsMakeTheProduct(t *testing.T) {
	for _, pair := range factorPairs() {
		a, b := pair[0], pair[1]
		rows, fine := impl.Rows(a, b)
		if !fine || len(rows) != 16 {
			t.Fatalf("Rows(%x, %x) = %x, %v", a, b, rows, fine)
		}
		parts := []*big.Int{}
		for lane, row := range rows {
			want := reckoned(a, int64(b>>(4*lane)&15))
			if row != want.word || want != multipleOf(a, int64(b>>(4*lane)&15)) {
				t.Fatalf("Rows(%x, %x)[%d] = %x, not %v", a, b, lane, row, want)
			}
			part := new(big.Int).Mul(big.NewInt(want.leaves), tenTo(16))
			parts = append(parts, part.Add(part, wholeOf(row)))
		}
		got := productOf(a, b)
		whole := new(big.Int).Mul(wholeOf(got.high), tenTo(16))
		if whole.Add(whole, wholeOf(got.low)); whole.Cmp(farSums(parts)) != 0 {
			t.Fatalf("the rows of %x by %x make %v, the product is %v", a, b, farSums(parts), whole)
		}
	}
}

func TestRowsByHand(t *testing.T) {
	none := make([]uint64, 16)
	ones := slices.Repeat([]uint64{allNines}, 16)
	for _, c := range []struct {
		a, b uint64
		want []uint64
	}{
		{0, 0, none},
		{0, allNines, none},
		{allNines, 0, none},
		{0x34, 0x12, append([]uint64{0x68, 0x34}, make([]uint64, 14)...)},
		{0x34, 1, append([]uint64{0x34}, make([]uint64, 15)...)},
		{0x34, highOne, append(make([]uint64, 15), 0x34)},
		{9, 0x9000000000000000, append(make([]uint64, 15), 0x81)},
		{0x9000000000000000, 9, append([]uint64{highOne}, make([]uint64, 15)...)},
		{allNines, 0x1111111111111111, ones},
		{allNines, allNines, slices.Repeat([]uint64{0x9999999999999991}, 16)},
	} {
		got, fine := impl.Rows(c.a, c.b)
		if !fine || !slices.Equal(got, c.want) {
			t.Errorf("Rows(%x, %x) = %x, %v, not %x", c.a, c.b, got, fine, c.want)
		}
	}
}

func TestRowsAreNewMemory(t *testing.T) {
	for _, pair := range [][2]uint64{{0x34, 0x12}, {0, 0}, {allNines, allNines}, {0xa, 1}, {1, 0xa}} {
		first, fine := impl.Rows(pair[0], pair[1])
		want := slices.Clone(first)
		spare := first[:cap(first)]
		for i := range spare {
			spare[i] = math.MaxUint64
		}
		again, still := impl.Rows(pair[0], pair[1])
		if fine != still || !slices.Equal(again, want) {
			t.Errorf("Rows(%x, %x) = %x after %x", pair[0], pair[1], again, want)
		}
	}
}

// TestColumnsMakeTheProduct: each column is the sum of its digits' products by
// whole numbers; each ten times the one behind, they are the product.
func TestColumnsMakeTheProduct(t *testing.T) {
	for _, pair := range factorPairs() {
		a, b := pair[0], pair[1]
		sums := [31]int64{}
		for places := range 256 {
			i, j := places/16, places%16
			sums[i+j] += int64(a >> (4 * i) & 15 * (b >> (4 * j) & 15))
		}
		parts := []*big.Int{}
		for n, want := range sums {
			got := impl.Column(a, b, int64(n))
			if got != want || got != impl.Column(b, a, int64(n)) {
				t.Fatalf("Column(%x, %x, %d) = %d, not %d", a, b, n, got, want)
			}
			parts = append(parts, big.NewInt(got))
		}
		if whole := new(big.Int).Mul(wholeOf(a), wholeOf(b)); whole.Cmp(farSums(parts)) != 0 {
			t.Fatalf("the columns of %x by %x make %v, not %v", a, b, farSums(parts), whole)
		}
	}
}

func TestColumnByHand(t *testing.T) {
	for _, c := range []struct {
		a, b    uint64
		n, want int64
	}{
		{0x34, 0x12, 0, 8},
		{0x34, 0x12, 1, 10},
		{0x34, 0x12, 2, 3},
		{0x34, 0x12, 3, 0},
		{0x34, 0x12, 30, 0},
		{0, 0, 0, 0},
		{0, allNines, 15, 0},
		{allNines, 1, 15, 9},
		{allNines, 1, 16, 0},
		{allNines, allNines, 0, 81},
		{allNines, allNines, 14, 81 * 15},
		{allNines, allNines, 15, 81 * 16},
		{allNines, allNines, 16, 81 * 15},
		{allNines, allNines, 29, 81 * 2},
		{allNines, allNines, 30, 81},
		{9, 0x9000000000000000, 15, 81},
		{9, 0x9000000000000000, 14, 0},
		{9, 0x9000000000000000, 16, 0},
		{highOne, highOne, 30, 1},
		{highOne, highOne, 0, 0},
	} {
		if got := impl.Column(c.a, c.b, c.n); got != c.want {
			t.Errorf("Column(%x, %x, %d) = %d, not %d", c.a, c.b, c.n, got, c.want)
		}
	}
}

func TestColumnOutOfRange(t *testing.T) {
	far := []int64{
		-1, 31, -2, 32, -15, -16, -30, -31, 45, 46, 47, 62, 256, -256, 1 << 32, 1<<32 + 15, -1 << 32,
		math.MinInt64, math.MinInt64 + 1, math.MinInt64 + 15, math.MaxInt64, math.MaxInt64 - 1,
	}
	for _, word := range edgeFactors {
		for _, n := range far {
			if got := impl.Column(word, allNines, n); got != -1 {
				t.Fatalf("Column(%x, %x, %d) = %d", word, uint64(allNines), n, got)
			}
		}
	}
}

func TestPowersAreThoseOfTheNumbers(t *testing.T) {
	words := append([]uint64{}, edgeFactors...)
	for i, word := range multipleWords() {
		if i%20 == 0 {
			words = append(words, word)
		}
	}
	for _, word := range words {
		for n := int64(0); n <= 60; n++ {
			whole := new(big.Int).Exp(wholeOf(word), big.NewInt(n), tenTo(16))
			want := power{plainOf(whole), true}
			if got := powerOf(word, n); got != want {
				t.Fatalf("PowerOf(%x, %d) = %v, not %v", word, n, got, want)
			}
		}
	}
}

// TestPowersGoOnByProducts: the next power is the low word of the product of
// this one and the word.
func TestPowersGoOnByProducts(t *testing.T) {
	for _, word := range edgeFactors {
		for n := int64(0); n < 60; n++ {
			this, next := powerOf(word, n), powerOf(word, n+1)
			if want := productOf(this.word, word); !this.fine || next != (power{want.low, want.fine}) {
				t.Fatalf("PowerOf(%x, %d) = %v, behind %v", word, n+1, next, this)
			}
		}
	}
}

func TestPowerByHand(t *testing.T) {
	for _, c := range []struct {
		word uint64
		n    int64
		want uint64
	}{
		{0, 0, 1}, {0, 1, 0}, {0, 2, 0}, {0, 59, 0}, {0, 60, 0},
		{1, 0, 1}, {1, 1, 1}, {1, 2, 1}, {1, 59, 1}, {1, 60, 1},
		{0x10, 0, 1}, {0x10, 1, 0x10}, {0x10, 2, 0x100}, {0x10, 15, highOne}, {0x10, 16, 0}, {0x10, 59, 0}, {0x10, 60, 0},
		{allNines, 0, 1}, {allNines, 1, allNines}, {allNines, 2, 1}, {allNines, 59, allNines}, {allNines, 60, 1},
		{7, 0, 1}, {7, 1, 7}, {7, 2, 0x49}, {7, 5, 0x16807}, {7, 18, 0x1628413597910449}, {7, 19, 0x1398895185373143},
		// 2 to the 53 just fits, to the 54 just does not; 2 to the 60 is
		// 1152921504606846976.
		{2, 53, 0x9007199254740992}, {2, 54, 0x8014398509481984}, {2, 59, 0x6460752303423488}, {2, 60, 0x2921504606846976},
	} {
		if got := powerOf(c.word, c.n); got != (power{c.want, true}) {
			t.Errorf("PowerOf(%x, %d) = %v, not %x", c.word, c.n, got, c.want)
		}
	}
}

func TestPowerOutOfRange(t *testing.T) {
	far := []int64{
		-1, 61, -2, 62, -59, -60, -61, 64, 256, -256, 1 << 32, 1<<32 + 2, -1 << 32,
		math.MinInt64, math.MinInt64 + 1, math.MaxInt64, math.MaxInt64 - 1,
	}
	for _, word := range edgeFactors {
		for _, n := range far {
			if got := powerOf(word, n); got != (power{}) {
				t.Fatalf("PowerOf(%x, %d) = %v", word, n, got)
			}
		}
	}
}

func checkRefusedProduct(t *testing.T, a, b uint64) {
	t.Helper()
	if got := productOf(a, b); got != (product{}) {
		t.Fatalf("Product(%x, %x) = %v", a, b, got)
	}
	if rows, fine := impl.Rows(a, b); fine || len(rows) != 0 {
		t.Fatalf("Rows(%x, %x) = %x, %v", a, b, rows, fine)
	}
	for _, n := range []int64{0, 1, 14, 15, 16, 29, 30, -1, 31, math.MinInt64, math.MaxInt64} {
		if got := impl.Column(a, b, n); got != -1 {
			t.Fatalf("Column(%x, %x, %d) = %d", a, b, n, got)
		}
	}
}

func TestProductsOfBrokenWords(t *testing.T) {
	for _, broken := range brokenWords() {
		for _, whole := range []uint64{0, 1, allNines, highOne, 0x1948} {
			checkRefusedProduct(t, broken, whole)
			checkRefusedProduct(t, whole, broken)
		}
		checkRefusedProduct(t, broken, broken)
		checkRefusedProduct(t, broken, 0xa)
		checkRefusedProduct(t, 0xa000000000000000, broken)
		if got := squareOf(broken); got != (product{}) {
			t.Fatalf("Square(%x) = %v", broken, got)
		}
		for _, n := range []int64{0, 1, 2, 59, 60, -1, 61, math.MinInt64, math.MaxInt64} {
			if got := powerOf(broken, n); got != (power{}) {
				t.Fatalf("PowerOf(%x, %d) = %v", broken, n, got)
			}
		}
	}
}
