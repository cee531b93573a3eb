package tests

import (
	"go/ast"
	"go/token"
	"testing"
)

// TestDecletWays: the table is made once, by a sync.Once behind a function. Of
// the exported functions Canonical reads it; the others come to no such table.
func TestDecletWays(t *testing.T) {
	file := parseImpl(t, token.NewFileSet())["l09_declet.go"]
	makers := onceMakers(file)
	for name, reads := range map[string]bool{"Declet": false, "Undeclet": false, "Declets": false, "Canonical": true} {
		found := false
		for reached := range reachedFrom(file, name) {
			found = found || makers[reached]
		}
		if found != reads {
			t.Errorf("%s comes to a table made once: %v", name, found)
		}
	}
}

// reachedFrom are the names that a function of the file uses, and those that
// these use, as far as they are functions of the file.
func reachedFrom(file *ast.File, name string) map[string]bool {
	reached, work := map[string]bool{name: true}, []string{name}
	for len(work) > 0 {
		for _, decl := range file.Decls {
			function, ok := decl.(*ast.FuncDecl)
			if !ok || function.Name.Name != work[0] {
				continue
			}
			ast.Inspect(function.Body, func(n ast.Node) bool {
				if used, ok := n.(*ast.Ident); ok && !reached[used.Name] {
					reached[used.Name] = true
					work = append(work, used.Name)
				}
				return true
			})
		}
		work = work[1:]
	}
	return reached
}

// onceMakers are the functions that call Do of one of the file's sync.Once.
func onceMakers(file *ast.File) map[string]bool {
	onces, makers := oncesOf(file), map[string]bool{}
	for _, decl := range file.Decls {
		function, ok := decl.(*ast.FuncDecl)
		if !ok {
			continue
		}
		ast.Inspect(function, func(n ast.Node) bool {
			if chosen, ok := n.(*ast.SelectorExpr); ok && chosen.Sel.Name == "Do" {
				once, ok := chosen.X.(*ast.Ident)
				makers[function.Name.Name] = makers[function.Name.Name] || ok && onces[once.Name]
			}
			return true
		})
	}
	return makers
}

// oncesOf are the file's variables of type sync.Once.
func oncesOf(file *ast.File) map[string]bool {
	onces := map[string]bool{}
	ast.Inspect(file, func(n ast.Node) bool {
		spec, ok := n.(*ast.ValueSpec)
		if !ok {
			return true
		}
		if kind, ok := spec.Type.(*ast.SelectorExpr); ok && isNamed(kind.X, "sync") && kind.Sel.Name == "Once" {
			for _, name := range spec.Names {
				onces[name.Name] = true
			}
		}
		return true
	})
	return onces
}
