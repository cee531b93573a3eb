package tests

import (
	"os"
	"os/exec"
	"path/filepath"
	"testing"
)

// TestInside asks inside the package what no exported function tells (what the
// table of declets made once holds, what naturals are over every kind of whole
// number): in a copy of it, to which the tests of testdata are laid.
func TestInside(t *testing.T) {
	folder := t.TempDir()
	layFile(t, "../go.mod", filepath.Join(folder, "go.mod"))
	for _, pattern := range []string{"../impl/*.go", "testdata/*_inside_test.go"} {
		paths, err := filepath.Glob(pattern)
		if err != nil || len(paths) == 0 {
			t.Fatalf("%d files are %s, %v", len(paths), pattern, err)
		}
		for _, path := range paths {
			layFile(t, path, filepath.Join(folder, "impl", filepath.Base(path)))
		}
	}
	command := exec.Command("go", "test", "-count=1", "-v", "./impl")
	command.Dir = folder
	told, err := command.CombinedOutput()
	if err != nil {
		t.Fatalf("%v\n%s", err, told)
	}
	t.Logf("%s", told)
}

func layFile(t *testing.T, from, to string) {
	t.Helper()
	text, err := os.ReadFile(from)
	if err != nil {
		t.Fatal(err)
	}
	if err := os.MkdirAll(filepath.Dir(to), 0o777); err != nil {
		t.Fatal(err)
	}
	if err := os.WriteFile(to, text, 0o666); err != nil {
		t.Fatal(err)
	}
}
