package tests

import (
	"os"
	"os/exec"
	"path/filepath"
	"testing"
)

// TestDecletsInside holds the table made once against the function. No exported
// function tells what the table alone tells, so this is asked inside the
// package: in a copy of it, to which testdata/l09_inside_test.go is laid.
func TestDecletsInside(t *testing.T) {
	folder := t.TempDir()
	layFile(t, "../go.mod", filepath.Join(folder, "go.mod"))
	paths, err := filepath.Glob("../impl/*.go")
	if err != nil {
		t.Fatal(err)
	}
	for _, path := range append(paths, "testdata/l09_inside_test.go") {
		layFile(t, path, filepath.Join(folder, "impl", filepath.Base(path)))
	}
	command := exec.Command("go", "test", "-count=1", "-v", "./impl")
	command.Dir = folder
	told, err := command.CombinedOutput()
	if err != nil {
		t.Fatalf("%v\n%s", err, told)
	}
	t.Logf("%s", told)
}

func layFile(t *testing.T, from, to string) {
	t.Helper()
	text, err := os.ReadFile(from)
	if err != nil {
		t.Fatal(err)
	}
	if err := os.MkdirAll(filepath.Dir(to), 0o777); err != nil {
		t.Fatal(err)
	}
	if err := os.WriteFile(to, text, 0o666); err != nil {
		t.Fatal(err)
	}
}
