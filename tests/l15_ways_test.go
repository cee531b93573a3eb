package tests

import (
	"go/ast"
	"go/token"
	"strings"
	"testing"
)

// TestOrderWays: Greater comes to a sort that is given a comparison as a method
// value, and Compare and Total to the same comparison.
func TestOrderWays(t *testing.T) {
	file := parseImpl(t, token.NewFileSet())["l15_order.go"]
	comparisons := sortedBy(file, reachedFrom(file, "Greater"))
	if len(comparisons) == 0 {
		t.Error("Greater comes to no sort by a method value")
	}
	for comparison := range comparisons {
		for _, name := range []string{"Compare", "Total"} {
			if !reachedFrom(file, name)[comparison] {
				t.Errorf("%s does not come to %s", name, comparison)
			}
		}
	}
}

// sortedBy are the methods of the file that one of the functions hands to a sort,
// without calling them.
func sortedBy(file *ast.File, functions map[string]bool) map[string]bool {
	methods, handed := methodsOf(file), map[string]bool{}
	for _, decl := range file.Decls {
		function, ok := decl.(*ast.FuncDecl)
		if !ok || !functions[function.Name.Name] {
			continue
		}
		ast.Inspect(function, func(n ast.Node) bool {
			call, ok := n.(*ast.CallExpr)
			if !ok || !isSort(call.Fun) {
				return true
			}
			for _, argument := range call.Args {
				if value, ok := argument.(*ast.SelectorExpr); ok && methods[value.Sel.Name] {
					handed[value.Sel.Name] = true
				}
			}
			return true
		})
	}
	return handed
}

func isSort(called ast.Expr) bool {
	chosen, ok := called.(*ast.SelectorExpr)
	return ok && isNamed(chosen.X, "slices") && strings.HasPrefix(chosen.Sel.Name, "Sort")
}

func methodsOf(file *ast.File) map[string]bool {
	methods := map[string]bool{}
	for _, decl := range file.Decls {
		if function, ok := decl.(*ast.FuncDecl); ok && function.Recv != nil {
			methods[function.Name.Name] = true
		}
	}
	return methods
}
