package impl

const WtPlain = 1
const WtFour = 2
const WtFive = 3

const (
	laneCount = 16
	laneBits  = 4
	laneMask  = 0xf
	topDigit  = 9
	allNines  = 0x9999999999999999
)

// A row for each weighting in the order of their numbers, high bit first, so
// that one rule reads all three.
var bitWeights = [3][laneBits]int64{
	{8, 4, 2, 1},
	{4, 2, 2, 1},
	{5, 2, 1, 1},
}

func LaneOk(weight int64, word uint64) bool {
	if !isWeighting(weight) {
		return false
	}
	for lane := range int64(laneCount) {
		if laneValue(weight, laneAt(word, lane)) > topDigit {
			return false
		}
	}
	return true
}

func LaneDigits(weight int64, word uint64) []int64 {
	if !LaneOk(weight, word) {
		return []int64{}
	}
	digits := make([]int64, laneCount)
	for lane := range int64(laneCount) {
		digits[laneCount-1-lane] = laneValue(weight, laneAt(word, lane))
	}
	return digits
}

func LanePack(weight int64, digits []int64) (uint64, bool) {
	if !isWeighting(weight) || len(digits) > laneCount {
		return 0, false
	}
	word := uint64(0)
	for _, digit := range digits {
		if digit < 0 || digit > topDigit {
			return 0, false
		}
		word = word<<laneBits | firstForm(weight, digit)
	}
	return word, true
}

func Recode(from int64, to int64, word uint64) (uint64, bool) {
	// LanePack takes the empty list for 0, so a bad word must stop here.
	if !LaneOk(from, word) {
		return 0, false
	}
	return LanePack(to, LaneDigits(from, word))
}

func LaneAdd(a uint64, b uint64, in bool) (uint64, bool, bool) {
	if !LaneOk(WtPlain, a) || !LaneOk(WtPlain, b) {
		return 0, false, false
	}
	sum, carry := uint64(0), uint64(0)
	if in {
		carry = 1
	}
	for lane := range int64(laneCount) {
		digit := laneAt(a, lane) + laneAt(b, lane) + carry
		carry = 0
		if digit > topDigit {
			digit -= topDigit + 1
			carry = 1
		}
		sum |= digit << (laneBits * lane)
	}
	return sum, carry == 1, true
}

func Nines(word uint64) (uint64, bool) {
	if !LaneOk(WtPlain, word) {
		return 0, false
	}
	// No lane is above 9, so no lane borrows from the next.
	return allNines - word, true
}

func LaneShift(word uint64, n int64) uint64 {
	switch {
	case n >= 0 && n <= laneCount:
		return word << (laneBits * n)
	case n < 0 && n >= -laneCount:
		return word >> (laneBits * -n)
	}
	return 0
}

func Lead(word uint64) int64 {
	count := int64(0)
	for count < laneCount && laneAt(word, laneCount-1-count) == 0 {
		count++
	}
	return count
}

func isWeighting(weight int64) bool {
	return weight >= WtPlain && weight <= WtFive
}

func laneAt(word uint64, lane int64) uint64 {
	return word >> (laneBits * lane) & laneMask
}

func laneValue(weight int64, lane uint64) int64 {
	value := int64(0)
	for place := range int64(laneBits) {
		if lane>>(laneBits-1-place)&1 == 1 {
			value += bitWeights[weight-1][place]
		}
	}
	return value
}

func firstForm(weight int64, digit int64) uint64 {
	// Upward from 0, so that the first lane found is the least one.
	lane := uint64(0)
	for lane < laneMask && laneValue(weight, lane) != digit {
		lane++
	}
	return lane
}
