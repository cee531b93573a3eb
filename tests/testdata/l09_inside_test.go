package impl

import "testing"

func TestTableTellsAsTheFunction(t *testing.T) {
	table := madeDeclets()
	if len(table.declets) != 1000 || len(table.numbers) != 1024 {
		t.Fatalf("a table of %d declets and %d numbers", len(table.declets), len(table.numbers))
	}
	for number, told := range table.declets {
		if worked := Declet(int64(number)); told != worked {
			t.Errorf("%d: the table tells %010b, the function %010b", number, told, worked)
		}
	}
	for bits, told := range table.numbers {
		if worked := Undeclet(int64(bits)); told != worked {
			t.Errorf("%010b: the table tells %d, the function %d", bits, told, worked)
		}
		if told, worked := table.canonical(int64(bits)), Canonical(int64(bits)); told != worked {
			t.Errorf("%010b: Canonical by the table %010b, by the function %010b", bits, told, worked)
		}
	}
}

func TestTableIsMadeOnce(t *testing.T) {
	first, second := madeDeclets(), madeDeclets()
	if &first.declets[0] != &second.declets[0] || &first.numbers[0] != &second.numbers[0] {
		t.Error("asked twice, the table is made twice")
	}
}

// TestAnswersWithoutTheTable: whatever stands in the table, the answers are
// those that the function works out.
func TestAnswersWithoutTheTable(t *testing.T) {
	kept := madeDeclets()
	defer func() { decletMade = kept }()
	for _, spoilt := range []decletTable{
		{},
		{make([]int64, 1000), make([]int64, 1024)},
		{kept.numbers, kept.declets},
		{kept.declets[:7], kept.numbers[:7]},
	} {
		decletMade = spoilt
		for bits := range int64(1024) {
			number := kept.numbers[bits]
			if got := Undeclet(bits); got != number {
				t.Errorf("Undeclet(%010b) = %d, not %d", bits, got, number)
			}
			if got := Canonical(bits); got != kept.declets[number] {
				t.Errorf("Canonical(%010b) = %010b, not %010b", bits, got, kept.declets[number])
			}
		}
		for number, declet := range kept.declets {
			if got := Declet(int64(number)); got != declet {
				t.Errorf("Declet(%d) = %010b, not %010b", number, got, declet)
			}
		}
	}
}
