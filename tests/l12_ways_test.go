package tests

import (
	"go/ast"
	"go/token"
	"testing"
)

// TestRoundWays: both functions that round come to an array of structs whose
// field is a function, which stands inside a function, and to a switch with
// fallthrough.
func TestRoundWays(t *testing.T) {
	file := parseImpl(t, token.NewFileSet())["l12_round.go"]
	holders := functionHolders(file)
	for _, name := range []string{"RoundDigits", "Finish"} {
		reached := reachedFrom(file, name)
		modes, falls := false, false
		for _, decl := range file.Decls {
			function, ok := decl.(*ast.FuncDecl)
			if ok && reached[function.Name.Name] {
				modes = modes || hasArrayOf(function, holders)
				falls = falls || branchesBy(function, token.FALLTHROUGH)
			}
		}
		if !modes || !falls {
			t.Errorf("%s: comes to an array of modes: %v, to a fallthrough: %v", name, modes, falls)
		}
	}
}

// TestNoFunctionsAtPackageLevel: no variable there, in whatever file, is made of
// functions.
func TestNoFunctionsAtPackageLevel(t *testing.T) {
	for name, file := range parseImpl(t, token.NewFileSet()) {
		holders := functionHolders(file)
		for _, decl := range file.Decls {
			variables, ok := decl.(*ast.GenDecl)
			if !ok || variables.Tok != token.VAR {
				continue
			}
			ast.Inspect(variables, func(n ast.Node) bool {
				_, isFunction := n.(*ast.FuncType)
				held, isName := n.(*ast.Ident)
				if isFunction || isName && holders[held.Name] {
					t.Errorf("%s has a variable of functions at package level", name)
				}
				return true
			})
		}
	}
}

// functionHolders are the file's structs with a field that is a function.
func functionHolders(file *ast.File) map[string]bool {
	holders := map[string]bool{}
	ast.Inspect(file, func(n ast.Node) bool {
		spec, ok := n.(*ast.TypeSpec)
		if !ok {
			return true
		}
		if fields, ok := spec.Type.(*ast.StructType); ok {
			for _, field := range fields.Fields.List {
				if _, ok := field.Type.(*ast.FuncType); ok {
					holders[spec.Name.Name] = true
				}
			}
		}
		return true
	})
	return holders
}

func hasArrayOf(function *ast.FuncDecl, names map[string]bool) bool {
	found := false
	ast.Inspect(function, func(n ast.Node) bool {
		if array, ok := n.(*ast.ArrayType); ok && array.Len != nil {
			element, ok := array.Elt.(*ast.Ident)
			found = found || ok && names[element.Name]
		}
		return true
	})
	return found
}

func branchesBy(function *ast.FuncDecl, by token.Token) bool {
	found := false
	ast.Inspect(function, func(n ast.Node) bool {
		branch, ok := n.(*ast.BranchStmt)
		found = found || ok && branch.Tok == by
		return true
	})
	return found
}
