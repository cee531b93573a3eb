package tests

import (
	"math"
	"math/big"
	"slices"
	"strconv"
	"strings"
	"testing"
	"unsafe"

	"loop.example/g00085/impl"
)

// mostNatural is the document's limit, written anew.
const mostNatural = 200

func nines(size int) string {
	return strings.Repeat("9", size)
}

// tenPowerText is 1 with that many noughts behind it.
func tenPowerText(noughts int) string {
	return "1" + strings.Repeat("0", noughts)
}

// mixedNatural has digits that hang on the seed and the size alone.
func mixedNatural(seed uint64, size int) string {
	bits := strings.Join(mixedBits(seed*1000+uint64(size), 12), "")
	number, _ := new(big.Int).SetString(bits, 2)
	return "7" + number.String()[1:size]
}

func bigNatural(t *testing.T, text string) *big.Int {
	t.Helper()
	number, fine := new(big.Int).SetString(text, 10)
	if !fine {
		t.Fatalf("%q is no number", text)
	}
	return number
}

// naturalText is empty for what no natural can be.
func naturalText(number *big.Int) string {
	text := number.String()
	if number.Sign() < 0 || len(text) > mostNatural {
		return ""
	}
	return text
}

// someNaturals have each length at which something might turn, and at each all
// nines, noughts behind and within, and digits with no rule to them. The first
// of them is 0.
func someNaturals() []string {
	texts := []string{"0", "1", "2", "5", "9"}
	for _, size := range []int{2, 3, 9, 10, 18, 19, 20, 21, 63, 64, 65, 99, 100, 101, 127, 128, 129, 199, 200} {
		texts = append(texts, nines(size), tenPowerText(size-1), tenPowerText(size - 1)[:size-1]+"1",
			strings.Repeat("5", size), mixedNatural(1, size), mixedNatural(2, size))
	}
	slices.Sort(texts)
	return slices.Compact(texts)
}

// noNaturals are texts that are none, each for one cause alone.
func noNaturals() []string {
	texts := []string{
		"", "00", "01", "09", "000", "0" + nines(199), strings.Repeat("0", mostNatural), "0" + nines(mostNatural),
		nines(201), tenPowerText(200), strings.Repeat("1", 201), strings.Repeat("0", 201), nines(256), nines(100000),
		"0x1f", "1e5", "1.0", "1_0", "-1", "+1", "-0", "+0", "\u0661", "1\u0660", "\uff11", "nil",
	}
	for _, wrong := range []byte("/: +-.,_aAeEx\n\t\x00\x01\x09\x7f\x80\xb0\xb9\xff") {
		for _, size := range []int{1, 3, 200} {
			for _, place := range []int{0, size / 2, size - 1} {
				text := []byte(strings.Repeat("7", size))
				text[place] = wrong
				texts = append(texts, string(text))
			}
		}
	}
	return texts
}

func TestMaxNatural(t *testing.T) {
	if impl.MaxNatural != mostNatural {
		t.Errorf("MaxNatural is %d", impl.MaxNatural)
	}
}

func TestNatOk(t *testing.T) {
	right := append(someNaturals(), "0", "1", "2", "3", "4", "5", "6", "7", "8", "9", "10", "100", "101",
		nines(200), tenPowerText(199), strings.Repeat("1", 200))
	for _, text := range right {
		if !impl.NatOk(text) {
			t.Errorf("NatOk(%q) is false", text)
		}
	}
	for _, text := range noNaturals() {
		if impl.NatOk(text) {
			t.Errorf("NatOk(%q) is true", text)
		}
	}
}

// TestNatOkEveryByte: of all texts of one byte the ten digits alone are right.
func TestNatOkEveryByte(t *testing.T) {
	for b := range 256 {
		digit := b >= '0' && b <= '9'
		for text, want := range map[string]bool{
			string([]byte{byte(b)}):           digit,
			string([]byte{'1', byte(b)}):      digit,
			string([]byte{'1', byte(b), '1'}): digit,
			string([]byte{byte(b), '1'}):      digit && b != '0',
		} {
			if got := impl.NatOk(text); got != want {
				t.Errorf("NatOk(%q) is %v", text, got)
			}
		}
	}
}

func refusesPair(t *testing.T, a, b string) {
	t.Helper()
	if got := impl.NatCmp(a, b); got != 2 {
		t.Errorf("NatCmp(%q, %q) = %d", a, b, got)
	}
	for name, function := range map[string]func(string, string) string{
		"NatAdd": impl.NatAdd, "NatSub": impl.NatSub, "NatMul": impl.NatMul,
	} {
		if got := function(a, b); got != "" {
			t.Errorf("%s(%q, %q) = %q", name, a, b, got)
		}
	}
	if quotient, left := impl.NatDiv(a, b); quotient != "" || left != "" {
		t.Errorf("NatDiv(%q, %q) = %q, %q", a, b, quotient, left)
	}
}

// TestNaturalsRefuse: either text none, or both.
func TestNaturalsRefuse(t *testing.T) {
	nones := noNaturals()
	for i, none := range nones {
		for _, right := range []string{"0", "1", "10", "12345678901234567890", nines(100), nines(200)} {
			refusesPair(t, none, right)
			refusesPair(t, right, none)
		}
		refusesPair(t, none, none)
		refusesPair(t, none, nones[(i+1)%len(nones)])
		refusesPair(t, none, "")
		if root, left := impl.NatRoot(none); root != "" || left != "" {
			t.Errorf("NatRoot(%q) = %q, %q", none, root, left)
		}
		for _, n := range []int64{-1, 0, 1, 199, 200, 201} {
			if got := impl.NatShift(none, n); got != "" {
				t.Errorf("NatShift(%q, %d) = %q", none, n, got)
			}
		}
	}
}

// checkPair holds all functions of two texts against whole numbers reckoned
// apart.
func checkPair(t *testing.T, a, b string) {
	t.Helper()
	x, y := bigNatural(t, a), bigNatural(t, b)
	if got, want := impl.NatCmp(a, b), int64(x.Cmp(y)); got != want {
		t.Fatalf("NatCmp(%s, %s) = %d, not %d", a, b, got, want)
	}
	if got, want := impl.NatAdd(a, b), naturalText(new(big.Int).Add(x, y)); got != want {
		t.Fatalf("NatAdd(%s, %s) = %q, not %q", a, b, got, want)
	}
	if got, want := impl.NatSub(a, b), naturalText(new(big.Int).Sub(x, y)); got != want {
		t.Fatalf("NatSub(%s, %s) = %q, not %q", a, b, got, want)
	}
	if got, want := impl.NatMul(a, b), naturalText(new(big.Int).Mul(x, y)); got != want {
		t.Fatalf("NatMul(%s, %s) = %q, not %q", a, b, got, want)
	}
	wantQuotient, wantLeft := "", ""
	if y.Sign() != 0 {
		quotient, left := new(big.Int).QuoRem(x, y, new(big.Int))
		wantQuotient, wantLeft = quotient.String(), left.String()
	}
	if quotient, left := impl.NatDiv(a, b); quotient != wantQuotient || left != wantLeft {
		t.Fatalf("NatDiv(%s, %s) = %q, %q, not %q, %q", a, b, quotient, left, wantQuotient, wantLeft)
	}
}

func TestNaturalsReckoned(t *testing.T) {
	all := someNaturals()
	for _, a := range all {
		for _, b := range all {
			checkPair(t, a, b)
		}
	}
}

func TestNaturalsSmall(t *testing.T) {
	for a := range 130 {
		for b := range 130 {
			checkPair(t, strconv.Itoa(a), strconv.Itoa(b))
		}
	}
}

// TestNaturalsEveryLength takes each length up to the limit, and with it the
// length that fills the product, or is one too many.
func TestNaturalsEveryLength(t *testing.T) {
	for size := 1; size <= mostNatural; size++ {
		a := mixedNatural(3, size)
		for _, other := range []int{1, size, mostNatural - size, mostNatural - size + 1, mostNatural} {
			if other >= 1 {
				checkPair(t, a, mixedNatural(4, other))
				checkPair(t, nines(other), a)
			}
		}
	}
}

func TestNatCmp(t *testing.T) {
	zeros := strings.Repeat("0", 98)
	for _, c := range []struct {
		a, b string
		want int64
	}{
		{"0", "0", 0}, {"0", "1", -1}, {"1", "0", 1}, {"9", "10", -1}, {"10", "9", 1}, {"99", "100", -1},
		{"123", "223", -1}, {"123", "133", -1}, {"123", "124", -1},
		{"923", "123", 1}, {"193", "123", 1}, {"129", "123", 1},
		{"19", "21", -1}, {"21", "19", 1}, {"109", "190", -1},
		{nines(200), nines(200), 0}, {nines(199), tenPowerText(199), -1}, {tenPowerText(199), nines(199), 1},
		{"1" + zeros + "0", "1" + zeros + "1", -1}, {"2" + zeros + "0", "1" + zeros + "9", 1},
		{nines(200), "0", 1}, {"0", nines(200), -1},
		{"", "1", 2}, {"1", "", 2}, {"", "", 2}, {"01", "1", 2}, {"1", "01", 2}, {"00", "0", 2}, {nines(201), nines(201), 2},
	} {
		if got := impl.NatCmp(c.a, c.b); got != c.want {
			t.Errorf("NatCmp(%q, %q) = %d, not %d", c.a, c.b, got, c.want)
		}
	}
}

// TestNatCmpOneDigit: texts that differ in one digit alone, at each place.
func TestNatCmpOneDigit(t *testing.T) {
	for _, size := range []int{1, 2, 3, 20, 200} {
		for place := range size {
			less, more := []byte(strings.Repeat("5", size)), []byte(strings.Repeat("5", size))
			less[place], more[place] = '4', '6'
			middle := strings.Repeat("5", size)
			for _, c := range []struct {
				a, b string
				want int64
			}{
				{string(less), middle, -1}, {middle, string(less), 1}, {middle, string(more), -1},
				{string(more), middle, 1}, {string(less), string(more), -1}, {string(more), string(more), 0},
			} {
				if got := impl.NatCmp(c.a, c.b); got != c.want {
					t.Fatalf("NatCmp(%s, %s) = %d", c.a, c.b, got)
				}
			}
		}
	}
}

func TestNatAdd(t *testing.T) {
	for _, c := range [][3]string{
		{"0", "0", "0"}, {"0", "7", "7"}, {"7", "0", "7"}, {"5", "5", "10"}, {"1", "9", "10"}, {"999", "1", "1000"},
		{"1", "999", "1000"}, {"123456789", "987654321", "1111111110"},
		{nines(199), "1", tenPowerText(199)}, {"1", nines(199), tenPowerText(199)},
		{nines(200), "0", nines(200)}, {"0", nines(200), nines(200)}, {nines(200), "1", ""}, {"1", nines(200), ""},
		{"5" + strings.Repeat("0", 199), "5" + strings.Repeat("0", 199), ""},
		{"5" + strings.Repeat("0", 199), "4" + nines(199), nines(200)},
		{nines(200), nines(200), ""}, {tenPowerText(199), tenPowerText(199), "2" + strings.Repeat("0", 199)},
	} {
		if got := impl.NatAdd(c[0], c[1]); got != c[2] {
			t.Errorf("NatAdd(%s, %s) = %q, not %q", c[0], c[1], got, c[2])
		}
	}
	for size := 1; size < mostNatural; size++ {
		if got := impl.NatAdd(nines(size), "1"); got != tenPowerText(size) {
			t.Errorf("NatAdd of %d nines and 1 = %q", size, got)
		}
	}
}

func TestNatSub(t *testing.T) {
	for _, c := range [][3]string{
		{"0", "0", "0"}, {"7", "0", "7"}, {"0", "7", ""}, {"1", "2", ""}, {"10", "9", "1"}, {"9", "10", ""},
		{"1000", "1", "999"}, {"1000", "999", "1"}, {"1000", "1000", "0"}, {"1000", "1001", ""}, {"100200", "100199", "1"},
		{tenPowerText(199), "1", nines(199)}, {tenPowerText(199), nines(199), "1"}, {nines(199), tenPowerText(199), ""},
		{nines(200), nines(200), "0"}, {nines(200), "0", nines(200)}, {"0", nines(200), ""},
		{nines(200), tenPowerText(199), "8" + nines(199)},
	} {
		if got := impl.NatSub(c[0], c[1]); got != c[2] {
			t.Errorf("NatSub(%s, %s) = %q, not %q", c[0], c[1], got, c[2])
		}
	}
}

// TestNatSubNear: b more than a by one, the same, and less by one.
func TestNatSubNear(t *testing.T) {
	for _, a := range someNaturals() {
		if got := impl.NatSub(a, a); got != "0" {
			t.Errorf("NatSub(%s, itself) = %q", a, got)
		}
		more := naturalText(new(big.Int).Add(bigNatural(t, a), big.NewInt(1)))
		if more == "" {
			continue
		}
		if got := impl.NatSub(a, more); got != "" {
			t.Errorf("NatSub(%s, %s) = %q", a, more, got)
		}
		if got := impl.NatSub(more, a); got != "1" {
			t.Errorf("NatSub(%s, %s) = %q", more, a, got)
		}
	}
}

func TestNatMul(t *testing.T) {
	for _, c := range [][3]string{
		{"0", "0", "0"}, {"0", nines(200), "0"}, {nines(200), "0", "0"}, {nines(200), "1", nines(200)},
		{"1", nines(200), nines(200)}, {nines(200), "2", ""}, {"9", "9", "81"}, {"99", "99", "9801"},
		{nines(100), nines(100), nines(99) + "8" + strings.Repeat("0", 99) + "1"},
		{nines(101), nines(100), ""}, {nines(100), nines(101), ""}, {nines(200), nines(200), ""},
		{tenPowerText(99), tenPowerText(100), tenPowerText(199)}, {tenPowerText(100), tenPowerText(100), ""},
		{tenPowerText(199), "9", "9" + strings.Repeat("0", 199)}, {tenPowerText(199), "10", ""},
		{"4" + strings.Repeat("0", 99), "25" + strings.Repeat("0", 98), tenPowerText(199)},
		{"4" + strings.Repeat("0", 99), "25" + strings.Repeat("0", 99), ""},
		{strings.Repeat("3", 200), "3", nines(200)}, {strings.Repeat("3", 200), "4", ""},
	} {
		if got := impl.NatMul(c[0], c[1]); got != c[2] {
			t.Errorf("NatMul(%s, %s) = %q, not %q", c[0], c[1], got, c[2])
		}
	}
}

func TestNatDiv(t *testing.T) {
	for _, c := range [][4]string{
		{"0", "0", "", ""}, {"1", "0", "", ""}, {nines(200), "0", "", ""},
		{"0", "1", "0", "0"}, {"0", nines(200), "0", "0"}, {"6", "7", "0", "6"}, {"7", "7", "1", "0"}, {"8", "7", "1", "1"},
		{"699", "7", "99", "6"}, {"700", "7", "100", "0"}, {"1000", "999", "1", "1"}, {"100000", "10", "10000", "0"},
		{nines(200), "1", nines(200), "0"}, {nines(200), "9", strings.Repeat("1", 200), "0"},
		{nines(200), nines(100), "1" + strings.Repeat("0", 99) + "1", "0"},
		{nines(200), tenPowerText(99), nines(101), nines(99)},
		{nines(200), nines(200), "1", "0"}, {nines(199) + "8", nines(200), "0", nines(199) + "8"},
		{nines(200), nines(199) + "8", "1", "1"}, {nines(200), tenPowerText(199), "9", nines(199)},
		{tenPowerText(199), nines(199), "1", "1"}, {nines(199), tenPowerText(199), "0", nines(199)},
	} {
		if quotient, left := impl.NatDiv(c[0], c[1]); quotient != c[2] || left != c[3] {
			t.Errorf("NatDiv(%s, %s) = %q, %q, not %q, %q", c[0], c[1], quotient, left, c[2], c[3])
		}
	}
}

func TestNatDivDigits(t *testing.T) {
	for a := range 10 {
		for b := 1; b < 10; b++ {
			quotient, left := impl.NatDiv(strconv.Itoa(a), strconv.Itoa(b))
			if quotient != strconv.Itoa(a/b) || left != strconv.Itoa(a%b) {
				t.Errorf("NatDiv(%d, %d) = %q, %q", a, b, quotient, left)
			}
		}
		if quotient, left := impl.NatDiv(strconv.Itoa(a), "0"); quotient != "" || left != "" {
			t.Errorf("NatDiv(%d, 0) = %q, %q", a, quotient, left)
		}
	}
}

// TestNatDivMultiples: a multiple of b leaves nothing, one less leaves all but
// one of b.
func TestNatDivMultiples(t *testing.T) {
	one := big.NewInt(1)
	for _, b := range someNaturals()[1:] {
		for _, times := range []string{"1", "2", "9", "10", "101", mixedNatural(5, 30), nines(100), mixedNatural(6, 100)} {
			y, n := bigNatural(t, b), bigNatural(t, times)
			multiple := new(big.Int).Mul(y, n)
			if naturalText(multiple) == "" {
				continue
			}
			if quotient, left := impl.NatDiv(multiple.String(), b); quotient != times || left != "0" {
				t.Fatalf("NatDiv(%s, %s) = %q, %q", multiple, b, quotient, left)
			}
			quotient, left := impl.NatDiv(new(big.Int).Sub(multiple, one).String(), b)
			if quotient != new(big.Int).Sub(n, one).String() || left != new(big.Int).Sub(y, one).String() {
				t.Fatalf("NatDiv(one less than %s, %s) = %q, %q", multiple, b, quotient, left)
			}
		}
	}
}

// TestNaturalsPromise is promise 11, held against nothing but itself.
func TestNaturalsPromise(t *testing.T) {
	all := someNaturals()
	for _, a := range all {
		for _, b := range all {
			if impl.NatCmp(a, b) != -impl.NatCmp(b, a) {
				t.Fatalf("NatCmp(%s, %s) = %d, the other way %d", a, b, impl.NatCmp(a, b), impl.NatCmp(b, a))
			}
			sum := impl.NatAdd(a, b)
			if sum != impl.NatAdd(b, a) || impl.NatMul(a, b) != impl.NatMul(b, a) {
				t.Fatalf("%s and %s do not go both ways", a, b)
			}
			if sum != "" && (impl.NatSub(sum, b) != a || impl.NatSub(sum, a) != b) {
				t.Fatalf("%s and %s, added, leave %q and %q", a, b, impl.NatSub(sum, b), impl.NatSub(sum, a))
			}
			if b == "0" {
				continue
			}
			quotient, left := impl.NatDiv(a, b)
			if impl.NatAdd(impl.NatMul(quotient, b), left) != a || impl.NatCmp(left, b) != -1 {
				t.Fatalf("NatDiv(%s, %s) = %q, %q", a, b, quotient, left)
			}
		}
	}
}

func checkNatRoot(t *testing.T, a string) {
	t.Helper()
	number := bigNatural(t, a)
	s := new(big.Int).Sqrt(number)
	want := new(big.Int).Sub(number, new(big.Int).Mul(s, s))
	root, left := impl.NatRoot(a)
	if root != s.String() || left != want.String() {
		t.Fatalf("NatRoot(%s) = %q, %q, not %s, %s", a, root, left, s, want)
	}
	if impl.NatAdd(impl.NatMul(root, root), left) != a || impl.NatCmp(left, impl.NatAdd(root, root)) > 0 {
		t.Fatalf("NatRoot(%s) = %q, %q does not make it up", a, root, left)
	}
}

func TestNatRootSmall(t *testing.T) {
	s := 0
	for a := range 121 {
		if (s+1)*(s+1) <= a {
			s++
		}
		root, left := impl.NatRoot(strconv.Itoa(a))
		if root != strconv.Itoa(s) || left != strconv.Itoa(a-s*s) {
			t.Errorf("NatRoot(%d) = %q, %q", a, root, left)
		}
	}
}

// TestNatRootSquares: squares, one less and one more.
func TestNatRootSquares(t *testing.T) {
	one := big.NewInt(1)
	for _, s := range someNaturals()[1:] {
		if len(s) > mostNatural/2 {
			continue
		}
		root := bigNatural(t, s)
		square := new(big.Int).Mul(root, root)
		less, more := new(big.Int).Sub(square, one), new(big.Int).Add(square, one)
		if got, left := impl.NatRoot(square.String()); got != s || left != "0" {
			t.Fatalf("NatRoot(%s) = %q, %q", square, got, left)
		}
		if got, left := impl.NatRoot(more.String()); got != s || left != "1" {
			t.Fatalf("NatRoot(%s) = %q, %q", more, got, left)
		}
		// One less leaves the most that can be left of the root below.
		below := new(big.Int).Sub(root, one)
		if got, left := impl.NatRoot(less.String()); got != below.String() || left != new(big.Int).Add(below, below).String() {
			t.Fatalf("NatRoot(%s) = %q, %q", less, got, left)
		}
	}
}

func TestNatRoot(t *testing.T) {
	for _, c := range [][3]string{
		{"0", "0", "0"}, {"1", "1", "0"}, {"2", "1", "1"}, {"3", "1", "2"}, {"4", "2", "0"}, {"10", "3", "1"}, {"100", "10", "0"},
		{nines(200), nines(100), "1" + nines(99) + "8"},
		{tenPowerText(198), tenPowerText(99), "0"}, {nines(198), nines(99), "1" + nines(98) + "8"},
	} {
		if root, left := impl.NatRoot(c[0]); root != c[1] || left != c[2] {
			t.Errorf("NatRoot(%s) = %q, %q, not %q, %q", c[0], root, left, c[1], c[2])
		}
	}
	for _, a := range someNaturals() {
		checkNatRoot(t, a)
	}
	for size := 1; size <= mostNatural; size++ {
		checkNatRoot(t, mixedNatural(7, size))
		checkNatRoot(t, nines(size))
	}
}

func TestNatShift(t *testing.T) {
	counts := []int64{
		math.MinInt64, math.MinInt64 + 1, -1 << 32, -201, -200, -2, -1, 0, 1, 2, 100, 198, 199, 200, 201, 202, 256, 257,
		1 << 16, 1 << 32, 1<<32 | 1, math.MaxInt64 - 1, math.MaxInt64,
	}
	for _, a := range someNaturals() {
		for _, n := range append(counts, int64(mostNatural-len(a)), int64(mostNatural-len(a)+1)) {
			want := ""
			switch {
			case n < 0 || n > mostNatural:
			case a == "0":
				want = "0"
			case int64(len(a))+n <= mostNatural:
				want = a + strings.Repeat("0", int(n))
			}
			if got := impl.NatShift(a, n); got != want {
				t.Errorf("NatShift(%s, %d) = %q, not %q", a, n, got, want)
			}
		}
	}
}

func TestNatShiftEdges(t *testing.T) {
	for _, c := range []struct {
		a    string
		n    int64
		want string
	}{
		{"0", -1, ""}, {"0", 0, "0"}, {"0", 1, "0"}, {"0", 199, "0"}, {"0", 200, "0"}, {"0", 201, ""},
		{"0", math.MinInt64, ""}, {"0", math.MaxInt64, ""},
		{"1", 0, "1"}, {"1", 1, "10"}, {"1", 199, tenPowerText(199)}, {"1", 200, ""}, {"1", 201, ""}, {"1", -1, ""},
		{"12", 198, "12" + strings.Repeat("0", 198)}, {"12", 199, ""},
		{nines(199), 1, nines(199) + "0"}, {nines(199), 2, ""}, {nines(200), 0, nines(200)}, {nines(200), 1, ""},
		{"7", math.MinInt64, ""}, {"7", math.MaxInt64, ""}, {"", 0, ""}, {"00", 1, ""}, {"01", 0, ""}, {nines(201), 0, ""},
	} {
		if got := impl.NatShift(c.a, c.n); got != c.want {
			t.Errorf("NatShift(%q, %d) = %q, not %q", c.a, c.n, got, c.want)
		}
	}
}

// TestNaturalsAreNewMemory: an answer that is the text of an argument is still
// none of its bytes, and no two texts of one answer share theirs.
func TestNaturalsAreNewMemory(t *testing.T) {
	for _, size := range []int{4, 40, 200} {
		a, b := mixedNatural(8, size), nines(size)
		kept := strings.Clone(a)
		whole, nothing := impl.NatDiv(a, "1")
		none, left := impl.NatDiv(a, b)
		for _, got := range []string{
			impl.NatAdd(a, "0"), impl.NatAdd("0", a), impl.NatSub(a, "0"), impl.NatMul(a, "1"), impl.NatMul("1", a),
			impl.NatShift(a, 0), whole, left,
		} {
			if got != kept || a != kept {
				t.Fatalf("%s came as %s, and is %s", kept, got, a)
			}
			if unsafe.StringData(got) == unsafe.StringData(a) {
				t.Errorf("an answer shares the memory of %s", a)
			}
		}
		if nothing != "0" || none != "0" {
			t.Errorf("%q is left, %q is the quotient", nothing, none)
		}
		root, rest := impl.NatRoot(a)
		if unsafe.StringData(root) == unsafe.StringData(rest) {
			t.Errorf("both texts of NatRoot(%s) share their memory", a)
		}
	}
}
