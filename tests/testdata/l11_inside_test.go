package impl

import (
	"strings"
	"testing"
)

// someKind is a kind of whole number of its own, as the constraint lets in.
type someKind int16

// TestNaturalsOverAnyKind: what naturals are over hangs on no kind, neither on
// its width nor on whether it has numbers below 0.
func TestNaturalsOverAnyKind(t *testing.T) {
	checkKind[int](t, "int")
	checkKind[int8](t, "int8")
	checkKind[int16](t, "int16")
	checkKind[int32](t, "int32")
	checkKind[int64](t, "int64")
	checkKind[uint](t, "uint")
	checkKind[uint8](t, "uint8")
	checkKind[uint16](t, "uint16")
	checkKind[uint32](t, "uint32")
	checkKind[uint64](t, "uint64")
	checkKind[uintptr](t, "uintptr")
	checkKind[someKind](t, "someKind")
}

// checkKind takes the greatest and the least digits, since these come nearest
// to the ends of a kind.
func checkKind[D whole](t *testing.T, kind string) {
	t.Helper()
	texts := []string{"0", "1", "9", "10", "99", "7000000000000000000003", "123456789012345678901234567890",
		strings.Repeat("9", 100), "1" + strings.Repeat("0", 99), strings.Repeat("90", 100), strings.Repeat("9", 200)}
	for _, a := range texts {
		x := naturalOf[D](a)
		root, left := x.root()
		wantRoot, wantLeft := NatRoot(a)
		checkSame(t, kind, "text", x.text(), a)
		checkSame(t, kind, "root", root.text(), wantRoot)
		checkSame(t, kind, "root's rest", left.text(), wantLeft)
		checkSame(t, kind, "shifted", x.shifted(3).text(), NatShift(a, 3))
		for _, b := range texts {
			checkKindPair[D](t, kind, a, b)
		}
	}
}

func checkKindPair[D whole](t *testing.T, kind string, a string, b string) {
	t.Helper()
	x, y, fine := naturalsOf[D](a, b)
	if !fine || x.compare(y) != NatCmp(a, b) {
		t.Fatalf("%s: %s and %s are compared as %d", kind, a, b, x.compare(y))
	}
	checkSame(t, kind, "plus", x.plus(y).text(), NatAdd(a, b))
	checkSame(t, kind, "times", x.times(y).text(), NatMul(a, b))
	if x.compare(y) >= 0 {
		checkSame(t, kind, "minus", x.minus(y).text(), NatSub(a, b))
	}
	if b != "0" {
		quotient, rest := x.dividedBy(y)
		wantQuotient, wantRest := NatDiv(a, b)
		checkSame(t, kind, "quotient", quotient.text(), wantQuotient)
		checkSame(t, kind, "rest", rest.text(), wantRest)
	}
	checkSame(t, kind, "what stays", x.text()+" "+y.text(), a+" "+b)
}

func checkSame(t *testing.T, kind string, what string, got string, want string) {
	t.Helper()
	if got != want {
		t.Fatalf("%s: %s is %s, not %s", kind, what, got, want)
	}
}
