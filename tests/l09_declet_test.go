package tests

import (
	"math"
	"slices"
	"strings"
	"sync"
	"testing"

	"loop.example/g00085/impl"
)

const (
	numberCount   = int64(1000)
	tenBitsCount  = int64(1024)
	mostOfDeclets = 33
)

// decletChapter is the table of chapter 9, written off row by row.
const decletChapter = `
| 0 0 0 | b c d f g h 0 j k m |
| 0 0 1 | b c d f g h 1 0 0 m |
| 0 1 0 | b c d j k h 1 0 1 m |
| 1 0 0 | j k d f g h 1 1 0 m |
| 1 1 0 | j k d 0 0 h 1 1 1 m |
| 1 0 1 | f g d 0 1 h 1 1 1 m |
| 0 1 1 | b c d 1 0 h 1 1 1 m |
| 1 1 1 | 0 0 d 1 1 h 1 1 1 m |
`

// decletRow is a row of it: the values of a, e and i, and what stands for each
// of the ten bits.
type decletRow struct {
	high [3]string
	bits [10]string
}

func decletRows(t *testing.T) []decletRow {
	t.Helper()
	rows := []decletRow{}
	for _, line := range strings.Split(strings.TrimSpace(decletChapter), "\n") {
		parts := strings.Split(line, "|")
		high, bits := strings.Fields(parts[1]), strings.Fields(parts[2])
		if len(high) != 3 || len(bits) != 10 {
			t.Fatalf("a row of %d and %d bits: %s", len(high), len(bits), line)
		}
		rows = append(rows, decletRow{[3]string(high), [10]string(bits)})
	}
	if len(rows) != 8 {
		t.Fatalf("%d rows", len(rows))
	}
	return rows
}

// namesOfNumber are the bits of the three digits by their letters.
func namesOfNumber(number int64) map[string]string {
	named := map[string]string{"0": "0", "1": "1"}
	for i, digit := range []int64{number / 100, number / 10 % 10, number % 10} {
		for place := range 4 {
			named["abcdefghijkm"[4*i+place:][:1]] = []string{"0", "1"}[digit>>(3-place)&1]
		}
	}
	return named
}

// writtenDeclet goes from the digits to the ten bits.
func writtenDeclet(t *testing.T, rows []decletRow, number int64) int64 {
	t.Helper()
	named := namesOfNumber(number)
	for _, row := range rows {
		if row.high != [3]string{named["a"], named["e"], named["i"]} {
			continue
		}
		declet := int64(0)
		for _, name := range row.bits {
			declet *= 2
			if named[name] == "1" {
				declet++
			}
		}
		return declet
	}
	t.Fatalf("no row for %d", number)
	return -1
}

// readDeclet goes the other way on its own: it finds the row by the bits that
// stand fixed in it, and takes the letters from the others.
func readDeclet(t *testing.T, rows []decletRow, declet int64) int64 {
	t.Helper()
	found, number := 0, int64(-1)
	for _, row := range rows {
		named, fits := map[string]int64{}, true
		for i, name := range row.bits {
			bit := declet >> (9 - i) & 1
			switch {
			case name != "0" && name != "1":
				named[name] = bit
			case row.high == [3]string{"1", "1", "1"} && i < 2:
				// Bits 9 and 8 do not matter there.
			default:
				fits = fits && (name == "1") == (bit == 1)
			}
		}
		if !fits {
			continue
		}
		for i, name := range []string{"a", "e", "i"} {
			if row.high[i] == "1" {
				named[name] = 1
			}
		}
		found++
		number = 0
		for _, letters := range []string{"abcd", "efgh", "ijkm"} {
			digit := int64(0)
			for _, letter := range letters {
				digit = 2*digit + named[string(letter)]
			}
			number = 10*number + digit
		}
	}
	if found != 1 {
		t.Fatalf("%d rows fit %010b", found, declet)
	}
	return number
}

func TestDecletReckoned(t *testing.T) {
	rows := decletRows(t)
	for number := range numberCount {
		want := writtenDeclet(t, rows, number)
		if got := impl.Declet(number); got != want {
			t.Errorf("Declet(%d) = %010b, not %010b", number, got, want)
		}
	}
}

func TestUndecletReckoned(t *testing.T) {
	rows := decletRows(t)
	for declet := range tenBitsCount {
		number := readDeclet(t, rows, declet)
		if got := impl.Undeclet(declet); got != number {
			t.Errorf("Undeclet(%010b) = %d, not %d", declet, got, number)
		}
		want := writtenDeclet(t, rows, number)
		if got := impl.Canonical(declet); got != want {
			t.Errorf("Canonical(%010b) = %010b, not %010b", declet, got, want)
		}
	}
}

func TestDeclet(t *testing.T) {
	// A line here for each row of the chapter, in its order.
	for _, c := range []struct{ number, declet int64 }{
		{0, 0b000_000_0000}, {5, 0b000_000_0101}, {123, 0b001_010_0011}, {777, 0b111_111_0111},
		{8, 0b000_000_1000}, {9, 0b000_000_1001}, {678, 0b110_111_1000}, {779, 0b111_111_1001},
		{80, 0b000_000_1010}, {90, 0b000_001_1010}, {786, 0b111_110_1010}, {797, 0b111_111_1011},
		{800, 0b000_000_1100}, {900, 0b001_000_1100}, {867, 0b110_110_1101}, {977, 0b111_111_1101},
		{880, 0b000_000_1110}, {886, 0b110_000_1110}, {997, 0b111_001_1111}, {990, 0b001_001_1110},
		{808, 0b000_010_1110}, {868, 0b110_010_1110}, {979, 0b111_011_1111}, {909, 0b001_010_1111},
		{88, 0b000_100_1110}, {99, 0b000_101_1111}, {688, 0b110_100_1110}, {799, 0b111_101_1111},
		{888, 0b000_110_1110}, {889, 0b000_110_1111}, {898, 0b000_111_1110}, {988, 0b001_110_1110}, {999, 0b001_111_1111},
	} {
		if got := impl.Declet(c.number); got != c.declet {
			t.Errorf("Declet(%d) = %010b, not %010b", c.number, got, c.declet)
		}
		if got := impl.Undeclet(c.declet); got != c.number {
			t.Errorf("Undeclet(%010b) = %d, not %d", c.declet, got, c.number)
		}
		if got := impl.Canonical(c.declet); got != c.declet {
			t.Errorf("Canonical(%010b) = %010b", c.declet, got)
		}
	}
}

// TestDecletHighBits: of three digits that are 8 or 9 each, bits 9 and 8 do not
// matter; anywhere else they do.
func TestDecletHighBits(t *testing.T) {
	for declet := range tenBitsCount {
		base := declet & 0xff
		loose := declet&0b1110 == 0b1110 && declet>>5&3 == 3
		same := impl.Undeclet(declet) == impl.Undeclet(base) && impl.Canonical(declet) == base
		if same != (loose || declet == base) {
			t.Errorf("%010b: Undeclet %d and %d without bits 9 and 8, Canonical %010b",
				declet, impl.Undeclet(declet), impl.Undeclet(base), impl.Canonical(declet))
		}
	}
	for low, number := range map[int64]int64{0x6e: 888, 0x6f: 889, 0x7e: 898, 0x7f: 899, 0xee: 988, 0xef: 989, 0xfe: 998, 0xff: 999} {
		for high := range int64(4) {
			declet := high<<8 | low
			if got, first := impl.Undeclet(declet), impl.Canonical(declet); got != number || first != low {
				t.Errorf("%010b: Undeclet %d, Canonical %010b", declet, got, first)
			}
		}
	}
}

// TestDecletsThereAndBack is promise 9, held against nothing but itself.
func TestDecletsThereAndBack(t *testing.T) {
	for number := range numberCount {
		declet := impl.Declet(number)
		if declet < 0 || declet >= tenBitsCount || impl.Undeclet(declet) != number || impl.Canonical(declet) != declet {
			t.Errorf("%d: Declet %d, Undeclet %d, Canonical %d", number, declet, impl.Undeclet(declet), impl.Canonical(declet))
		}
	}
	first := 0
	for declet := range tenBitsCount {
		once := impl.Canonical(declet)
		if again := impl.Canonical(once); again != once || impl.Undeclet(once) != impl.Undeclet(declet) {
			t.Errorf("Canonical(%d) = %d, of that %d; Undeclet %d and %d", declet, once, again, impl.Undeclet(declet), impl.Undeclet(once))
		}
		if once == declet {
			first++
		}
	}
	if first != int(numberCount) {
		t.Errorf("%d declets are their own Canonical", first)
	}
}

func TestDecletRefuses(t *testing.T) {
	far := []int64{
		-1, -2, -10, -999, -1000, -1024, 1 << 16, 1 << 32, 1<<32 + 5, -1 << 32,
		math.MinInt64, math.MinInt64 + 1, math.MaxInt64 - 1, math.MaxInt64,
	}
	for _, number := range append(far, 1000, 1001, 1023, 1024, 9999) {
		if got := impl.Declet(number); got != -1 {
			t.Errorf("Declet(%d) = %d", number, got)
		}
	}
	for _, bits := range append(far, 1024, 1025, 2047, 2048) {
		if number, first := impl.Undeclet(bits), impl.Canonical(bits); number != -1 || first != -1 {
			t.Errorf("Undeclet(%d) = %d, Canonical %d", bits, number, first)
		}
	}
}

func checkDeclets(t *testing.T, rows []decletRow, digits []int64) {
	t.Helper()
	declets, fine := impl.Declets(digits)
	if !fine || len(declets) != len(digits)/3 {
		t.Fatalf("Declets(%v) = %v, %v", digits, declets, fine)
	}
	for i, declet := range declets {
		number := 100*digits[3*i] + 10*digits[3*i+1] + digits[3*i+2]
		if impl.Undeclet(declet) != number || declet != writtenDeclet(t, rows, number) {
			t.Fatalf("Declets(%v) = %v: its declet %d stands for %d", digits, declets, i, impl.Undeclet(declet))
		}
	}
}

func TestDecletsOfDigits(t *testing.T) {
	rows := decletRows(t)
	wordLists(3, 0, 9, func(digits []int64) { checkDeclets(t, rows, digits) })
	for size := 0; size <= mostOfDeclets; size += 3 {
		for _, digits := range digitLists(size, 0, 9) {
			checkDeclets(t, rows, digits)
		}
	}
}

func TestDeclets(t *testing.T) {
	cases := []struct{ digits, want []int64 }{
		{nil, nil},
		{[]int64{}, nil},
		{[]int64{0, 0, 0}, []int64{0}},
		{[]int64{0, 0, 5}, []int64{0x005}},
		{[]int64{9, 9, 9}, []int64{0x0ff}},
		{[]int64{1, 2, 3, 9, 7, 9}, []int64{0x0a3, 0x3bf}},
		{[]int64{0, 8, 0, 5, 5, 5}, []int64{0x00a, 0x2d5}},
		{slices.Repeat([]int64{9}, mostOfDeclets), slices.Repeat([]int64{0x0ff}, 11)},
		{slices.Repeat([]int64{0, 7, 9}, 11), slices.Repeat([]int64{0x079}, 11)},
		{make([]int64, mostOfDeclets), make([]int64, 11)},
	}
	for _, c := range cases {
		if got, fine := impl.Declets(c.digits); !fine || !slices.Equal(got, c.want) {
			t.Errorf("Declets(%v) = %v, %v, not %v", c.digits, got, fine, c.want)
		}
	}
}

func refusesDeclets(t *testing.T, digits []int64) {
	t.Helper()
	if got, fine := impl.Declets(digits); fine || len(got) != 0 {
		t.Errorf("Declets(%v) = %v, %v", digits, got, fine)
	}
}

func TestDecletsRefuses(t *testing.T) {
	for size := range 70 {
		if size%3 == 0 && size <= mostOfDeclets {
			continue
		}
		for _, digit := range []int64{0, 1, 9} {
			refusesDeclets(t, slices.Repeat([]int64{digit}, size))
		}
	}
	for _, size := range []int{1, 2, 3, 4, 6, 15, 32, mostOfDeclets, 34, 36} {
		for _, digits := range spoilt(size, 0, 9) {
			refusesDeclets(t, digits)
		}
	}
	// Digits that would make up a number from 0 to 999, each wrong all the same.
	for _, digits := range [][]int64{{0, -1, 10}, {1, -1, 0}, {0, 10, 0}, {0, 0, 10}, {0, 0, 999}, {0, 99, 9}, {1, 0, -1}, {0, 1, -10}} {
		refusesDeclets(t, digits)
		refusesDeclets(t, append([]int64{1, 2, 3}, digits...))
		refusesDeclets(t, append(slices.Clone(digits), 1, 2, 3))
	}
}

func TestDecletsLeavesItsArgument(t *testing.T) {
	for _, size := range []int{0, 1, 2, 3, 4, 6, 32, mostOfDeclets, 34, 36} {
		for _, first := range []int64{0, 9, 10, -1, math.MinInt64, math.MaxInt64} {
			room := slices.Repeat([]int64{0, 7, 5, 9, 8}, 10)
			room[0] = first
			kept := slices.Clone(room)
			impl.Declets(room[:size])
			if !slices.Equal(room, kept) {
				t.Fatalf("Declets of %d digits, the first %d, writes", size, first)
			}
		}
	}
}

func TestDecletsMemory(t *testing.T) {
	for _, digits := range [][]int64{
		nil, {0, 0, 0}, {9, 9, 9}, {1, 2, 3, 4, 5, 6}, slices.Repeat([]int64{8, 0, 9}, 11),
		{1}, {1, 2, 10}, slices.Repeat([]int64{9}, 36),
	} {
		given := slices.Clone(digits)
		first, fine := impl.Declets(given)
		second, _ := impl.Declets(given)
		want := slices.Clone(first)
		fillAll(first)
		_ = append(first, 77, 77)
		if !slices.Equal(given, digits) {
			t.Errorf("Declets(%v): the answer shares memory with the argument", digits)
		}
		if !slices.Equal(second, want) {
			t.Errorf("Declets(%v): two answers share memory", digits)
		}
		if again, still := impl.Declets(given); still != fine || !slices.Equal(again, want) {
			t.Errorf("Declets(%v) = %v, %v, once %v, %v", digits, again, still, want, fine)
		}
		for _, number := range []int64{0, 77, 123, 456, 809, 999} {
			if impl.Undeclet(impl.Declet(number)) != number {
				t.Errorf("after a write into Declets(%v): %d comes back as %d", digits, number, impl.Undeclet(impl.Declet(number)))
			}
		}
	}
}

// TestDecletsSideBySide: whoever calls first, all are told the same.
func TestDecletsSideBySide(t *testing.T) {
	told := make([]int64, numberCount)
	group := sync.WaitGroup{}
	for number := range numberCount {
		group.Go(func() { told[number] = impl.Undeclet(impl.Canonical(impl.Declet(number))) })
	}
	group.Wait()
	for number, back := range told {
		if back != int64(number) {
			t.Errorf("%d comes back as %d", number, back)
		}
	}
}
