package tests

import (
	"math"
	"math/big"
	"slices"
	"testing"

	"loop.example/g00085/impl"
)

const (
	mostBehind = 4
	// longestRoot is the greatest whole number whose square an int64 holds.
	longestRoot = int64(3037000499)
)

// root is an answer of Root, of the same form as a quotient's.
type root = quotient

func rootOf(x, n int64) root {
	digits, left, fine := impl.Root(x, n)
	return root{digits, left, fine}
}

// step is an answer of RootStep.
type step struct {
	root, left int64
	fine       bool
}

func stepOf(partial, rest, digit int64) step {
	root, left, fine := impl.RootStep(partial, rest, digit)
	return step{root, left, fine}
}

// around are the numbers themselves, one less and one more, as far as they lie
// within the bounds.
func around(least, most int64, numbers ...int64) []int64 {
	all := []int64{}
	for _, number := range numbers {
		for _, near := range []int64{-1, 0, 1} {
			// The sum of a number at the very end would come round.
			if near < 0 && number == least || near > 0 && number == most {
				continue
			}
			all = append(all, number+near)
		}
	}
	return all
}

// someWides are small numbers, squares with their neighbours, and far ones.
func someWides() []int64 {
	all := around(0, impl.MaxWide, 0, 12345678, 33333333, 50000000, 67108864, 88888888, 99980001, impl.MaxWide)
	for x := int64(0); x <= 1100; x++ {
		all = append(all, x)
	}
	for s := int64(34); s <= 9999; s += 29 {
		all = append(all, around(0, impl.MaxWide, s*s)...)
	}
	for ten := int64(1); ten <= impl.MaxWide; ten *= 10 {
		all = append(all, around(0, impl.MaxWide, ten)...)
	}
	return all
}

// scaled is x 10^(2 n).
func scaled(x, n int64) *big.Int {
	return new(big.Int).Mul(big.NewInt(x), tenTo(int(2*n)))
}

func TestRootReckoned(t *testing.T) {
	for _, x := range someWides() {
		for n := int64(0); n <= mostBehind; n++ {
			number := scaled(x, n)
			s := new(big.Int).Sqrt(number)
			left := new(big.Int).Sub(number, new(big.Int).Mul(s, s))
			want := root{digitsOfBig(s, int(4+n)), left.Int64(), true}
			if got := rootOf(x, n); !got.same(want) {
				t.Fatalf("Root(%d, %d) = %v, not %v", x, n, got, want)
			}
		}
	}
}

// TestRootMakesUp: the digits squared, and what is left, are the number; what
// is left is less than one more digit in the last place would take.
func TestRootMakesUp(t *testing.T) {
	for _, x := range someWides() {
		for n := int64(0); n <= mostBehind; n++ {
			got := rootOf(x, n)
			if !got.fine || int64(len(got.digits)) != 4+n {
				t.Fatalf("Root(%d, %d) = %v", x, n, got)
			}
			for _, digit := range got.digits {
				if digit < 0 || digit > 9 {
					t.Fatalf("Root(%d, %d) = %v", x, n, got)
				}
			}
			s := bigOf(got.digits)
			if got.left < 0 || big.NewInt(got.left).Cmp(new(big.Int).Add(s, s)) > 0 {
				t.Fatalf("Root(%d, %d) leaves %d of %v", x, n, got.left, s)
			}
			together := new(big.Int).Add(new(big.Int).Mul(s, s), big.NewInt(got.left))
			if together.Cmp(scaled(x, n)) != 0 {
				t.Fatalf("Root(%d, %d) = %v makes up %v", x, n, got, together)
			}
		}
	}
}

// TestRootBySteps: steps over the digits of x two by two, then over pairs of
// noughts, give what Root gives.
func TestRootBySteps(t *testing.T) {
	for _, x := range someWides() {
		for n := int64(0); n <= mostBehind; n++ {
			digits := digitsOfBig(big.NewInt(x), 8)
			digits = append(digits, make([]int64, 2*n)...)
			so, grown := step{0, 0, true}, []int64{}
			for i := 0; i < len(digits); i += 2 {
				next := stepOf(so.root, so.left, 10*digits[i]+digits[i+1])
				if !next.fine {
					t.Fatalf("Root(%d, %d): no step behind %v", x, n, so)
				}
				grown, so = append(grown, next.root-10*so.root), next
			}
			if got := rootOf(x, n); !got.same(root{grown, so.left, true}) || bigOf(got.digits).Int64() != so.root {
				t.Fatalf("Root(%d, %d) = %v, by steps %v, %v", x, n, got, grown, so)
			}
		}
	}
}

func TestRoot(t *testing.T) {
	cases := []struct {
		x    int64
		want root
	}{
		{0, root{[]int64{0, 0, 0, 0}, 0, true}},
		{0, root{make([]int64, 8), 0, true}},
		{1, root{[]int64{0, 0, 0, 1}, 0, true}},
		{2, root{[]int64{0, 0, 0, 1}, 1, true}},
		{2, root{[]int64{0, 0, 0, 1, 4, 1, 4}, 604, true}},
		{2, root{[]int64{0, 0, 0, 1, 4, 1, 4, 2}, 3836, true}},
		{3, root{[]int64{0, 0, 0, 1, 7}, 11, true}},
		{10, root{[]int64{0, 0, 0, 3, 1, 6}, 144, true}},
		// A square, one less and one more.
		{143, root{[]int64{0, 0, 1, 1}, 22, true}},
		{144, root{[]int64{0, 0, 1, 2}, 0, true}},
		{145, root{[]int64{0, 0, 1, 2}, 1, true}},
		{143, root{[]int64{0, 0, 1, 1, 9, 5}, 1975, true}},
		{144, root{[]int64{0, 0, 1, 2, 0, 0, 0, 0}, 0, true}},
		{99980000, root{[]int64{9, 9, 9, 8}, 19996, true}},
		{99980001, root{[]int64{9, 9, 9, 9}, 0, true}},
		{99980002, root{[]int64{9, 9, 9, 9}, 1, true}},
		{1000000, root{[]int64{1, 0, 0, 0, 0}, 0, true}},
		// The greatest number leaves as much as may be left.
		{impl.MaxWide, root{[]int64{9, 9, 9, 9}, 19998, true}},
		{impl.MaxWide, root{[]int64{9, 9, 9, 9, 9, 9, 9, 9}, 99999999, true}},
	}
	for _, c := range cases {
		n := int64(len(c.want.digits)) - 4
		if got := rootOf(c.x, n); !got.same(c.want) {
			t.Errorf("Root(%d, %d) = %v, not %v", c.x, n, got, c.want)
		}
	}
}

// farRoots are out of range for every argument of Root and RootStep. A hundred
// times some of them, or twice, would come round to something small.
var farRoots = []int64{
	math.MinInt64, math.MinInt64 + 1, math.MinInt64 / 2, math.MinInt64 / 100, -1 << 32, -impl.MaxPart - 1, -impl.MaxPart,
	4 * impl.MaxPart, 1 << 32, 1<<32 + 1, math.MaxInt64 / 100, math.MaxInt64/20 + 1, 1 << 58, 1 << 62, 1<<62 + 1, math.MaxInt64 - 1, math.MaxInt64,
}

func refusesRoot(t *testing.T, x, n int64) {
	t.Helper()
	if got := rootOf(x, n); !got.same(root{}) {
		t.Errorf("Root(%d, %d) = %v", x, n, got)
	}
}

func TestRootRefuses(t *testing.T) {
	for n := int64(0); n <= mostBehind; n++ {
		for _, x := range append([]int64{-1, -4, -144, impl.MaxWide + 1, impl.MaxWide + 2}, farRoots...) {
			refusesRoot(t, x, n)
		}
	}
	for _, x := range []int64{0, 1, 2, 144, impl.MaxWide} {
		for _, n := range append([]int64{-1, -2, -4, mostBehind + 1, mostBehind + 2, 9}, farRoots...) {
			refusesRoot(t, x, n)
		}
	}
	for _, x := range farRoots {
		for _, n := range farRoots {
			refusesRoot(t, x, n)
		}
	}
}

// somePartials are partial roots: small ones, some on the way and the far end.
func somePartials() []int64 {
	all := []int64{99, 100, 101, 141, 999, 1000, 4999, 9999, 14142, 65536, 99999, 1234567, 33333333, 50000000, 99999999, impl.MaxPart}
	for s := int64(0); s <= 40; s++ {
		all = append(all, s)
	}
	return all
}

// someRests go from 0 to 2 S: all of them where they are few.
func someRests(partial int64) []int64 {
	return someDividends(2 * partial)
}

// reckonedStep tries each q, as the chapter's words have it.
func reckonedStep(partial, rest, digit int64) step {
	r, best := 100*rest+digit, step{}
	for q := int64(0); q <= 9; q++ {
		if left := r - (20*partial+q)*q; left >= 0 {
			best = step{10*partial + q, left, true}
		}
	}
	return best
}

func TestRootStepReckoned(t *testing.T) {
	for _, partial := range somePartials() {
		for _, rest := range someRests(partial) {
			for digit := int64(0); digit <= 99; digit++ {
				got := stepOf(partial, rest, digit)
				if want := reckonedStep(partial, rest, digit); got != want {
					t.Fatalf("RootStep(%d, %d, %d) = %v, not %v", partial, rest, digit, got, want)
				}
				if got.left > 2*got.root || got.root/10 != partial {
					t.Fatalf("RootStep(%d, %d, %d) = %v", partial, rest, digit, got)
				}
			}
		}
	}
}

func TestRootStep(t *testing.T) {
	const most = impl.MaxPart
	cases := []struct {
		partial, rest, digit int64
		want                 step
	}{
		{14, 4, 0, step{141, 119, true}},
		{0, 0, 0, step{0, 0, true}},
		{0, 0, 2, step{1, 1, true}},
		{0, 0, 99, step{9, 18, true}},
		{0, 0, 81, step{9, 0, true}},
		{0, 0, 80, step{8, 16, true}},
		{1, 1, 0, step{14, 4, true}},
		// A digit of 0, with something left and without.
		{1, 0, 0, step{10, 0, true}},
		{1, 0, 20, step{10, 20, true}},
		{1, 0, 21, step{11, 0, true}},
		{7, 1, 40, step{70, 140, true}},
		{7, 1, 41, step{71, 0, true}},
		{most, 0, 0, step{10 * most, 0, true}},
		{most, 0, 99, step{10 * most, 99, true}},
		{most, most / 5, 0, step{10 * most, 20 * most, true}},
		{most, most / 5, 1, step{10*most + 1, 0, true}},
		// A digit of 9, with as much left as may be and with nothing.
		{1, 2, 99, step{19, 38, true}},
		{1, 2, 61, step{19, 0, true}},
		{1, 2, 60, step{18, 36, true}},
		{9999, 19998, 99, step{99999, 199998, true}},
		{most, 2 * most, 0, step{10*most + 9, 20*most - 81, true}},
		{most, 2 * most, 99, step{10*most + 9, 20*most + 18, true}},
	}
	for _, c := range cases {
		if got := stepOf(c.partial, c.rest, c.digit); got != c.want {
			t.Errorf("RootStep(%d, %d, %d) = %v, not %v", c.partial, c.rest, c.digit, got, c.want)
		}
	}
}

func refusesStep(t *testing.T, partial, rest, digit int64) {
	t.Helper()
	if got := stepOf(partial, rest, digit); got != (step{}) {
		t.Errorf("RootStep(%d, %d, %d) = %v", partial, rest, digit, got)
	}
}

func TestRootStepRefuses(t *testing.T) {
	const most = impl.MaxPart
	for _, partial := range somePartials() {
		for _, digit := range []int64{0, 1, 50, 99} {
			refusesStep(t, partial, -1, digit)
			refusesStep(t, partial, 2*partial+1, digit)
			refusesStep(t, partial, 2*partial+2, digit)
		}
		for _, rest := range []int64{0, partial, 2 * partial} {
			for _, digit := range append([]int64{-1, -99, 100, 101}, farRoots...) {
				refusesStep(t, partial, rest, digit)
			}
		}
		for _, rest := range farRoots {
			refusesStep(t, partial, rest, 0)
		}
	}
	for _, partial := range append([]int64{-1, -2, most + 1, most + 2}, farRoots...) {
		for _, rest := range append([]int64{0, 1, -1, -2, partial, 2 * partial, -partial}, farRoots...) {
			for _, digit := range []int64{0, 99, -1, 100, math.MinInt64, math.MaxInt64} {
				refusesStep(t, partial, rest, digit)
			}
		}
	}
}

// someLongs are numbers up to the greatest int64: small ones, squares with
// their neighbours all the way, and far ones.
func someLongs() []int64 {
	all := around(0, math.MaxInt64, 0, 1, longestRoot*longestRoot, 1<<62, 1<<53, 4611686018427387904, math.MaxInt64-1, math.MaxInt64)
	for x := int64(0); x <= 10200; x++ {
		all = append(all, x)
	}
	for s := int64(100); s < longestRoot; s += s/37 + 1 {
		all = append(all, around(0, math.MaxInt64, s*s)...)
	}
	for near := int64(0); near <= 40; near++ {
		s := longestRoot - near
		all = append(all, around(0, math.MaxInt64, s*s, s*s+s, s*s-s)...)
	}
	for ten := int64(1); ten <= math.MaxInt64/10; ten *= 10 {
		all = append(all, around(0, math.MaxInt64, ten, 9*ten, 4*ten)...)
	}
	for bit := range 63 {
		all = append(all, around(0, math.MaxInt64, int64(1)<<bit)...)
	}
	return all
}

func TestIsqrtReckoned(t *testing.T) {
	for _, x := range someLongs() {
		s := impl.Isqrt(x)
		number, square := big.NewInt(x), new(big.Int).Mul(big.NewInt(s), big.NewInt(s))
		above := new(big.Int).Mul(big.NewInt(s+1), big.NewInt(s+1))
		if s < 0 || square.Cmp(number) > 0 || above.Cmp(number) <= 0 {
			t.Fatalf("Isqrt(%d) = %d", x, s)
		}
		if got := impl.IsSquare(x); got != (square.Cmp(number) == 0) {
			t.Fatalf("IsSquare(%d) = %v, its root %d", x, got, s)
		}
	}
}

func TestIsqrt(t *testing.T) {
	const square = longestRoot * longestRoot
	cases := []struct {
		x, want int64
		is      bool
	}{
		{0, 0, true}, {1, 1, true}, {2, 1, false}, {3, 1, false}, {4, 2, true}, {5, 2, false},
		{99, 9, false}, {100, 10, true}, {101, 10, false}, {143, 11, false}, {144, 12, true}, {145, 12, false},
		{99980001, 9999, true}, {impl.MaxWide, 9999, false}, {impl.MaxWide + 1, 10000, true},
		{1 << 62, 1 << 31, true}, {1<<62 - 1, 1<<31 - 1, false}, {1<<62 + 1, 1 << 31, false},
		{999999999999999999, 999999999, false}, {1000000000000000000, 1000000000, true},
		{square - 1, longestRoot - 1, false}, {square, longestRoot, true}, {square + 1, longestRoot, false},
		{math.MaxInt64 - 1, longestRoot, false}, {math.MaxInt64, longestRoot, false},
	}
	for _, c := range cases {
		if got, is := impl.Isqrt(c.x), impl.IsSquare(c.x); got != c.want || is != c.is {
			t.Errorf("Isqrt(%d) = %d, IsSquare %v", c.x, got, is)
		}
	}
}

// TestIsqrtBelowNought: also where the number without its sign is a square.
func TestIsqrtBelowNought(t *testing.T) {
	for _, x := range []int64{-1, -2, -4, -144, -99980001, -1 << 62, math.MinInt64, math.MinInt64 + 1} {
		if got, is := impl.Isqrt(x), impl.IsSquare(x); got != -1 || is {
			t.Errorf("Isqrt(%d) = %d, IsSquare %v", x, got, is)
		}
	}
}

func TestRootMemory(t *testing.T) {
	for _, c := range [][2]int64{{2, 3}, {0, 0}, {impl.MaxWide, 4}, {-1, 3}, {2, 5}} {
		first := rootOf(c[0], c[1])
		want := root{slices.Clone(first.digits), first.left, first.fine}
		fillAll(first.digits)
		if again := rootOf(c[0], c[1]); !again.same(want) {
			t.Errorf("Root(%d, %d) = %v, not %v", c[0], c[1], again, want)
		}
	}
}
