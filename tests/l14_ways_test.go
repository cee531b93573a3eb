package tests

import (
	"go/ast"
	"go/token"
	"testing"
)

// TestRatioWays: each of the five hands a closure to a variadic helper, and those
// that ask how many digits the format has go by closures over it.
func TestRatioWays(t *testing.T) {
	file := parseImpl(t, token.NewFileSet())["l14_ratio.go"]
	helpers, closers := variadicsOf(file), formatClosers(file)
	for name, asks := range map[string]bool{"Div": true, "Sqrt": true, "Quantize": true, "Remainder": false, "Whole": false} {
		helped := false
		ast.Inspect(functionNamed(t, file, name), func(n ast.Node) bool {
			if call, ok := n.(*ast.CallExpr); ok && helpers[calledName(call)] {
				helped = helped || handsClosure(call)
			}
			return true
		})
		closes := false
		for closer := range closers {
			closes = closes || reachedFrom(file, name)[closer]
		}
		if !helped || asks && !closes {
			t.Errorf("%s: hands a closure to a variadic helper: %v, comes to a closure over the format: %v", name, helped, closes)
		}
	}
}

// variadicsOf are the file's functions whose last parameter takes any number.
func variadicsOf(file *ast.File) map[string]bool {
	variadics := map[string]bool{}
	for _, decl := range file.Decls {
		function, ok := decl.(*ast.FuncDecl)
		if !ok || len(function.Type.Params.List) == 0 {
			continue
		}
		last := function.Type.Params.List[len(function.Type.Params.List)-1]
		_, variadics[function.Name.Name] = last.Type.(*ast.Ellipsis)
	}
	return variadics
}

func handsClosure(call *ast.CallExpr) bool {
	for _, handed := range call.Args {
		if _, ok := handed.(*ast.FuncLit); ok {
			return true
		}
	}
	return false
}

// formatClosers are the functions that are given a format and answer a function
// literal.
func formatClosers(file *ast.File) map[string]bool {
	closers := map[string]bool{}
	for _, decl := range file.Decls {
		function, ok := decl.(*ast.FuncDecl)
		if !ok || !namesOf(function.Type, "int64")["format"] {
			continue
		}
		ast.Inspect(function.Body, func(n ast.Node) bool {
			if answer, ok := n.(*ast.ReturnStmt); ok && len(answer.Results) == 1 {
				if _, literal := answer.Results[0].(*ast.FuncLit); literal {
					closers[function.Name.Name] = true
				}
			}
			return true
		})
	}
	return closers
}
