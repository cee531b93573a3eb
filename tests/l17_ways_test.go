package tests

import (
	"go/ast"
	"go/token"
	"testing"
)

// TestBenchWays: Bench comes to a map whose keys are words, and by errors.As to
// the cause of an error that is wrapped.
func TestBenchWays(t *testing.T) {
	file := parseImpl(t, token.NewFileSet())["l17_bench.go"]
	reached, wrappers := reachedFrom(file, "Bench"), wrappersOf(file)
	byWord, asks, wraps := false, false, false
	for _, decl := range file.Decls {
		function, ok := decl.(*ast.FuncDecl)
		if !ok || !reached[function.Name.Name] {
			continue
		}
		ast.Inspect(function, func(n ast.Node) bool {
			switch n := n.(type) {
			case *ast.CompositeLit:
				made, isMap := n.Type.(*ast.MapType)
				byWord = byWord || isMap && isNamed(made.Key, "string") && len(n.Elts) == len(benchCounts)
				name, isName := n.Type.(*ast.Ident)
				wraps = wraps || isName && wrappers[name.Name]
			case *ast.SelectorExpr:
				asks = asks || isNamed(n.X, "errors") && n.Sel.Name == "As"
			}
			return true
		})
	}
	if !byWord || !asks || !wraps {
		t.Errorf("Bench comes to a map by words: %v, to errors.As: %v, to an error that is wrapped: %v", byWord, asks, wraps)
	}
}

// wrappersOf are the file's types that have both Error and Unwrap.
func wrappersOf(file *ast.File) map[string]bool {
	methods, wrappers := map[string]int{}, map[string]bool{}
	for _, decl := range file.Decls {
		function, ok := decl.(*ast.FuncDecl)
		if !ok || function.Recv == nil || function.Name.Name != "Error" && function.Name.Name != "Unwrap" {
			continue
		}
		if of, ok := function.Recv.List[0].Type.(*ast.Ident); ok {
			methods[of.Name]++
			wrappers[of.Name] = methods[of.Name] == 2
		}
	}
	return wrappers
}
