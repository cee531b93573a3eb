package tests

import (
	"math"
	"testing"

	"loop.example/g00085/impl"
)

// seen is what a table goes by.
type seen struct{ a, u, t int64 }

type told struct{ code, digit int64 }

type soundness struct{ code, divisor, rest int64 }

func cellOf(s seen, divisor, rest int64) told {
	code, digit := impl.Cell(s.a, s.u, s.t, divisor, rest)
	return told{code, digit}
}

func soundOf(s seen) soundness {
	code, divisor, rest := impl.Sound(s.a, s.u, s.t)
	return soundness{code, divisor, rest}
}

func boundOf(s seen, divisor int64) int64 {
	return impl.Bound(s.a, s.u, s.t, divisor)
}

func allSeen() []seen {
	all := []seen{}
	for a := int64(5); a <= 9; a++ {
		for u := int64(1); u <= impl.MaxSeen; u++ {
			for t := int64(1); t <= impl.MaxSeen; t++ {
				all = append(all, seen{a, u, t})
			}
		}
	}
	return all
}

// tens is 10 to the n, for n of 0 to 2.
func tens(n int64) int64 {
	return [...]int64{1, 10, 100}[n]
}

// fraction is over / under, with an under above 0.
type fraction struct{ over, under int64 }

func (f fraction) atMost(g fraction) bool {
	return f.over*g.under <= g.over*f.under
}

func (f fraction) times(over, under int64) fraction {
	return fraction{f.over * over, f.under * under}
}

func (f fraction) magnitude() fraction {
	return fraction{max(f.over, -f.over), f.under}
}

// spot is a divisor d and ten times a remainder, y.
type spot struct{ d, y fraction }

// inCell asks what the chapter asks of a point of the cell.
func inCell(s seen, divisor, rest int64, p spot) bool {
	return fraction{divisor, tens(s.u)}.atMost(p.d) && p.d.atMost(fraction{divisor + 1, tens(s.u)}) &&
		fraction{rest, tens(s.t)}.atMost(p.y) && p.y.atMost(fraction{rest + 2, tens(s.t)}) &&
		p.y.magnitude().atMost(p.d.times(10*s.a, 9))
}

// cornersOf are the corners of the cell, cut by |y| <= (10 a / 9) d.
func cornersOf(s seen, divisor, rest int64) []spot {
	corners := []spot{}
	take := func(d, y fraction) {
		if p := (spot{d, y}); inCell(s, divisor, rest, p) {
			corners = append(corners, p)
		}
	}
	rests := []fraction{{rest, tens(s.t)}, {rest + 2, tens(s.t)}}
	for _, d := range []fraction{{divisor, tens(s.u)}, {divisor + 1, tens(s.u)}} {
		for _, y := range rests {
			take(d, y)
		}
		take(d, d.times(10*s.a, 9))
		take(d, d.times(-10*s.a, 9))
	}
	for _, y := range rests {
		take(y.magnitude().times(9, 10*s.a), y)
	}
	return corners
}

// keeps asks for (k - a / 9) d <= y <= (k + a / 9) d.
func keeps(s seen, k int64, p spot) bool {
	return p.d.times(9*k-s.a, 9).atMost(p.y) && p.y.atMost(p.d.times(9*k+s.a, 9))
}

func keepsAll(s seen, k int64, spots []spot) bool {
	for _, p := range spots {
		if !keeps(s, k, p) {
			return false
		}
	}
	return true
}

// reckonedCell goes through the digits by magnitude, those above 0 ahead.
func reckonedCell(s seen, divisor, rest int64) told {
	corners := cornersOf(s, divisor, rest)
	if len(corners) == 0 {
		return told{impl.CeMiss, 0}
	}
	for magnitude := int64(0); magnitude <= s.a; magnitude++ {
		if keepsAll(s, magnitude, corners) {
			return told{0, magnitude}
		}
		if keepsAll(s, -magnitude, corners) {
			return told{0, -magnitude}
		}
	}
	return told{impl.CeNone, 0}
}

func TestCell(t *testing.T) {
	cases := []struct {
		s             seen
		divisor, rest int64
		want          told
	}{
		{seen{6, 1, 1}, 5, 0, told{0, 0}},
		{seen{6, 1, 1}, 5, 1, told{0, 0}},
		{seen{6, 1, 1}, 5, 2, told{0, 1}},
		{seen{6, 1, 1}, 5, -1, told{0, 0}},
		{seen{6, 1, 1}, 5, -2, told{0, 0}},
		{seen{6, 1, 1}, 5, -3, told{0, 0}},
		{seen{6, 1, 1}, 5, -4, told{0, -1}},
		{seen{6, 1, 1}, 5, 7, told{impl.CeNone, 0}},
		{seen{6, 1, 1}, 5, 8, told{0, 2}},
		// With a at 9 the digit k holds from (k - 1) d to (k + 1) d.
		{seen{9, 1, 1}, 1, 0, told{0, 1}},
		{seen{9, 1, 1}, 1, -1, told{0, 0}},
		{seen{9, 1, 1}, 1, -2, told{0, -1}},
		{seen{9, 1, 1}, 1, 1, told{impl.CeNone, 0}},
		{seen{9, 1, 1}, 1, -3, told{impl.CeNone, 0}},
		// The cut takes away the divisors below 0.16, at which y is above what
		// any digit holds.
		{seen{9, 1, 1}, 1, 16, told{0, 9}},
		{seen{9, 1, 1}, 1, 15, told{impl.CeNone, 0}},
		{seen{9, 1, 1}, 1, -18, told{0, -9}},
		{seen{9, 1, 1}, 1, -17, told{impl.CeNone, 0}},
		// One point is in reach, d = 1 and y = 10 or -10.
		{seen{9, 1, 1}, 9, 100, told{0, 9}},
		{seen{9, 1, 1}, 9, -102, told{0, -9}},
		{seen{9, 1, 1}, 9, 101, told{impl.CeMiss, 0}},
		{seen{9, 1, 1}, 9, -103, told{impl.CeMiss, 0}},
		{seen{9, 2, 2}, 10, 110, told{0, 9}},
		{seen{9, 2, 2}, 10, 111, told{impl.CeMiss, 0}},
		{seen{5, 1, 1}, 9, 55, told{0, 5}},
		{seen{5, 1, 1}, 9, -57, told{0, -5}},
		{seen{5, 1, 1}, 9, 56, told{impl.CeMiss, 0}},
	}
	for _, c := range cases {
		if got := cellOf(c.s, c.divisor, c.rest); got != c.want {
			t.Errorf("Cell of %v, %d, %d: %v, not %v", c.s, c.divisor, c.rest, got, c.want)
		}
	}
}

// TestCellReckoned: every cell of every table, and some beyond its edges, tells
// the digit of the least magnitude that holds at every corner.
func TestCellReckoned(t *testing.T) {
	for _, s := range allSeen() {
		for divisor := tens(s.u - 1); divisor < tens(s.u); divisor++ {
			most := 12 * tens(s.t)
			for rest := -most; rest <= most; rest++ {
				got, want := cellOf(s, divisor, rest), reckonedCell(s, divisor, rest)
				if got != want {
					t.Fatalf("Cell of %v, %d, %d: %v, not %v", s, divisor, rest, got, want)
				}
			}
		}
	}
}

// TestCellInside: the digit holds at points inside the cell, too.
func TestCellInside(t *testing.T) {
	const parts = 6
	for _, s := range allSeen() {
		for divisor := tens(s.u - 1); divisor < tens(s.u); divisor += 1 + (s.u-1)*6 {
			bound := boundOf(s, divisor)
			for rest := -bound - 2; rest <= bound; rest += 1 + (s.t-1)*6 {
				got := cellOf(s, divisor, rest)
				for i := range int64(parts + 1) {
					for j := range int64(parts + 1) {
						p := spot{fraction{parts*divisor + i, parts * tens(s.u)}, fraction{parts*rest + 2*j, parts * tens(s.t)}}
						if got.code == 0 && inCell(s, divisor, rest, p) && !keeps(s, got.digit, p) {
							t.Fatalf("Cell of %v, %d, %d: %d does not hold at %v", s, divisor, rest, got.digit, p)
						}
					}
				}
			}
		}
	}
}

// TestCellMirror: a cell and the one across from it have the same digit, with
// the other sign.
func TestCellMirror(t *testing.T) {
	for _, s := range allSeen() {
		for divisor := tens(s.u - 1); divisor < tens(s.u); divisor++ {
			for rest := int64(-1); rest <= boundOf(s, divisor)+1; rest++ {
				here, across := cellOf(s, divisor, rest), cellOf(s, divisor, -rest-2)
				if here.code != across.code || here.digit != -across.digit {
					t.Fatalf("%v, %d: %v at %d, %v at %d", s, divisor, here, rest, across, -rest-2)
				}
			}
		}
	}
}

func TestSound(t *testing.T) {
	cases := []struct {
		s    seen
		want soundness
	}{
		{seen{9, 2, 2}, soundness{0, 0, 0}},
		{seen{9, 1, 1}, soundness{impl.CeNone, 1, -17}},
		{seen{5, 2, 1}, soundness{impl.CeNone, 10, -6}},
		{seen{8, 2, 2}, soundness{impl.CeNone, 10, -80}},
		{seen{4, 1, 1}, soundness{impl.CeParam, 0, 0}},
		{seen{10, 1, 1}, soundness{impl.CeParam, 0, 0}},
		{seen{9, 0, 2}, soundness{impl.CeParam, 0, 0}},
		{seen{9, impl.MaxSeen + 1, 2}, soundness{impl.CeParam, 0, 0}},
		{seen{9, 2, 0}, soundness{impl.CeParam, 0, 0}},
		{seen{9, 2, impl.MaxSeen + 1}, soundness{impl.CeParam, 0, 0}},
	}
	for _, c := range cases {
		if got := soundOf(c.s); got != c.want {
			t.Errorf("Sound of %v: %v, not %v", c.s, got, c.want)
		}
	}
}

// TestSoundReckoned: Sound tells the first cell, by D, then Y, that is reached
// and for which there is no digit.
func TestSoundReckoned(t *testing.T) {
	for _, s := range allSeen() {
		byCells, reckoned := soundness{}, soundness{}
		for divisor := tens(s.u) - 1; divisor >= tens(s.u-1); divisor-- {
			most := 12 * tens(s.t)
			for rest := most; rest >= -most; rest-- {
				if cellOf(s, divisor, rest).code == impl.CeNone {
					byCells = soundness{impl.CeNone, divisor, rest}
				}
				if reckonedCell(s, divisor, rest).code == impl.CeNone {
					reckoned = soundness{impl.CeNone, divisor, rest}
				}
			}
		}
		if got := soundOf(s); got != byCells || got != reckoned {
			t.Errorf("Sound of %v: %v, not %v; %v by Cell", s, got, reckoned, byCells)
		}
	}
}

func TestBound(t *testing.T) {
	cases := []struct {
		s             seen
		divisor, want int64
	}{
		{seen{9, 2, 2}, 10, 110},
		{seen{9, 1, 1}, 1, 20},
		{seen{9, 1, 1}, 9, 100},
		{seen{9, 2, 2}, 99, 1000},
		{seen{6, 1, 1}, 5, 40},
		{seen{5, 1, 1}, 1, 11},
		{seen{5, 1, 1}, 9, 55},
		{seen{5, 2, 1}, 10, 6},
		{seen{5, 1, 2}, 1, 111},
		{seen{7, 2, 1}, 99, 77},
	}
	for _, c := range cases {
		if got := boundOf(c.s, c.divisor); got != c.want {
			t.Errorf("Bound of %v, %d: %d, not %d", c.s, c.divisor, got, c.want)
		}
	}
}

// TestBoundReached: the cells at Bound and at -Bound - 2 are reached, the next
// ones outward are not.
func TestBoundReached(t *testing.T) {
	for _, s := range allSeen() {
		for divisor := tens(s.u - 1); divisor < tens(s.u); divisor++ {
			bound := boundOf(s, divisor)
			for _, edge := range [][2]int64{{bound, bound + 1}, {-bound - 2, -bound - 3}} {
				if len(cornersOf(s, divisor, edge[0])) == 0 || len(cornersOf(s, divisor, edge[1])) != 0 {
					t.Errorf("Bound of %v, %d: %d is no bound", s, divisor, bound)
				}
				if in, out := cellOf(s, divisor, edge[0]), cellOf(s, divisor, edge[1]); in.code == impl.CeMiss || out != (told{impl.CeMiss, 0}) {
					t.Errorf("Cell of %v, %d: %v at %d, %v at %d", s, divisor, in, edge[0], out, edge[1])
				}
			}
		}
	}
}

var farSeen = []int64{math.MinInt64, math.MinInt64 + 1, -1 << 32, -5, -1, 0, 1 << 32, 1<<32 + 5, math.MaxInt64 - 1, math.MaxInt64}

// wrongSeen are tables with one of a, u and t out of range.
func wrongSeen() []seen {
	wrong := []seen{}
	for _, far := range append([]int64{4, 10}, farSeen...) {
		wrong = append(wrong, seen{far, 1, 1}, seen{far, 2, 2})
	}
	for _, far := range append([]int64{impl.MaxSeen + 1}, farSeen...) {
		wrong = append(wrong, seen{9, far, 1}, seen{5, 1, far}, seen{9, far, far}, seen{far, far, far})
	}
	return wrong
}

// wrongDivisors are out of range for a table that sees u digits.
func wrongDivisors(u int64) []int64 {
	return append([]int64{tens(u-1) - 1, tens(u)}, farSeen...)
}

func TestSelectRefuses(t *testing.T) {
	anything := append([]int64{1, 5, 10, 50, 99, 100, -2, 110}, farSeen...)
	for _, s := range wrongSeen() {
		if got := soundOf(s); got != (soundness{impl.CeParam, 0, 0}) {
			t.Errorf("Sound of %v: %v", s, got)
		}
		for _, divisor := range anything {
			if got := boundOf(s, divisor); got != 0 {
				t.Errorf("Bound of %v, %d: %d", s, divisor, got)
			}
			for _, rest := range anything {
				if got := cellOf(s, divisor, rest); got != (told{impl.CeParam, 0}) {
					t.Errorf("Cell of %v, %d, %d: %v", s, divisor, rest, got)
				}
			}
		}
	}
	for _, s := range allSeen() {
		for _, divisor := range wrongDivisors(s.u) {
			if got := boundOf(s, divisor); got != 0 {
				t.Errorf("Bound of %v, %d: %d", s, divisor, got)
			}
			for _, rest := range anything {
				if got := cellOf(s, divisor, rest); got != (told{impl.CeRange, 0}) {
					t.Errorf("Cell of %v, %d, %d: %v", s, divisor, rest, got)
				}
			}
		}
	}
}

// TestSelectFarRests: any Y may be asked for.
func TestSelectFarRests(t *testing.T) {
	far := []int64{math.MinInt64, math.MinInt64 + 1, math.MinInt64 + 2, -1 << 62, -1 << 32, 1 << 32, 1 << 62, math.MaxInt64 - 2, math.MaxInt64 - 1, math.MaxInt64}
	// Times a unit of the table these would come round to something small.
	for _, unit := range []int64{9, 10, 90, 100, 900} {
		far = append(far, math.MaxInt64/unit+1, math.MinInt64/unit-1)
	}
	for _, s := range allSeen() {
		for _, divisor := range []int64{tens(s.u - 1), tens(s.u) - 1} {
			for _, rest := range far {
				if got := cellOf(s, divisor, rest); got != (told{impl.CeMiss, 0}) {
					t.Errorf("Cell of %v, %d, %d: %v", s, divisor, rest, got)
				}
			}
		}
	}
}
