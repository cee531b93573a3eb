package tests

import (
	"bytes"
	"go/ast"
	"go/format"
	"go/parser"
	"go/token"
	"os"
	"path/filepath"
	"strconv"
	"strings"
	"testing"
)

const allowedImports = " bytes cmp container/heap errors iter maps math math/bits slices sort strconv strings sync sync/atomic unicode unicode/utf8 "

const mostLines = 60

func parseImpl(t *testing.T, fset *token.FileSet) map[string]*ast.File {
	paths, err := filepath.Glob("../impl/*.go")
	if err != nil || len(paths) != 17 {
		t.Fatalf("%d files in impl, %v", len(paths), err)
	}
	files := map[string]*ast.File{}
	for _, path := range paths {
		file, err := parser.ParseFile(fset, path, nil, parser.ParseComments)
		if err != nil {
			t.Fatal(err)
		}
		files[filepath.Base(path)] = file
	}
	return files
}

func TestLanguage(t *testing.T) {
	fset := token.NewFileSet()
	for name, file := range parseImpl(t, fset) {
		for _, spec := range file.Imports {
			if path, _ := strconv.Unquote(spec.Path.Value); !strings.Contains(allowedImports, " "+path+" ") {
				t.Errorf("%s imports %s", name, path)
			}
		}
		for _, group := range file.Comments {
			for _, comment := range group.List {
				if strings.HasPrefix(comment.Text, "//go:") || strings.HasPrefix(comment.Text, "// +build") {
					t.Errorf("%s has %s", name, comment.Text)
				}
			}
		}
		for _, decl := range file.Decls {
			if f, ok := decl.(*ast.FuncDecl); ok {
				if lines := fset.Position(f.End()).Line - fset.Position(f.Pos()).Line + 1; lines > mostLines {
					t.Errorf("%s: %s has %d lines", name, f.Name.Name, lines)
				}
			}
		}
	}
}

func TestLayout(t *testing.T) {
	for _, pattern := range []string{"../impl/*.go", "*.go", "testdata/*.go"} {
		paths, _ := filepath.Glob(pattern)
		for _, path := range paths {
			text, err := os.ReadFile(path)
			if err != nil {
				t.Fatal(err)
			}
			if laid, err := format.Source(text); err != nil || !bytes.Equal(laid, text) {
				t.Errorf("%s is not in gofmt's layout (%v)", path, err)
			}
		}
	}
}

func TestFolders(t *testing.T) {
	entries, err := os.ReadDir("..")
	if err != nil {
		t.Fatal(err)
	}
	// Hidden folders are the checkout's own, sharedtests is the throw-away copy's.
	for _, entry := range entries {
		name := entry.Name()
		if entry.IsDir() && name[0] != '.' && !strings.Contains(" impl tests sharedtests ", " "+name+" ") {
			t.Errorf("folder %s", name)
		}
	}
}
