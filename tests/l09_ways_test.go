package tests

import (
	"go/ast"
	"go/token"
	"testing"
)

// TestDecletWays: the table is made once, by a sync.Once behind a function that
// Declet and Undeclet call.
func TestDecletWays(t *testing.T) {
	file := parseImpl(t, token.NewFileSet())["l09_declet.go"]
	makers := onceMakers(file)
	for _, name := range []string{"Declet", "Undeclet"} {
		asked := false
		ast.Inspect(functionNamed(t, file, name), func(n ast.Node) bool {
			call, ok := n.(*ast.CallExpr)
			asked = asked || ok && makers[calledName(call)]
			return true
		})
		if !asked {
			t.Errorf("%s does not ask for a table made once", name)
		}
	}
}

// onceMakers are the functions that call Do of one of the file's sync.Once.
func onceMakers(file *ast.File) map[string]bool {
	onces, makers := oncesOf(file), map[string]bool{}
	for _, decl := range file.Decls {
		function, ok := decl.(*ast.FuncDecl)
		if !ok {
			continue
		}
		ast.Inspect(function, func(n ast.Node) bool {
			if chosen, ok := n.(*ast.SelectorExpr); ok && chosen.Sel.Name == "Do" {
				once, ok := chosen.X.(*ast.Ident)
				makers[function.Name.Name] = makers[function.Name.Name] || ok && onces[once.Name]
			}
			return true
		})
	}
	return makers
}

// oncesOf are the file's variables of type sync.Once.
func oncesOf(file *ast.File) map[string]bool {
	onces := map[string]bool{}
	ast.Inspect(file, func(n ast.Node) bool {
		spec, ok := n.(*ast.ValueSpec)
		if !ok {
			return true
		}
		if kind, ok := spec.Type.(*ast.SelectorExpr); ok && isNamed(kind.X, "sync") && kind.Sel.Name == "Once" {
			for _, name := range spec.Names {
				onces[name.Name] = true
			}
		}
		return true
	})
	return onces
}
