package tests

import (
	"go/ast"
	"go/token"
	"testing"
)

// TestNaturalWays: there is a generic type, and each function that works on
// digits comes to it by a generic function and goes through digits by a range
// over a whole number.
func TestNaturalWays(t *testing.T) {
	file := parseImpl(t, token.NewFileSet())["l11_natural.go"]
	if !hasGenericType(file) {
		t.Error("there is no generic type")
	}
	for _, name := range []string{"NatCmp", "NatAdd", "NatSub", "NatMul", "NatDiv", "NatRoot", "NatShift"} {
		reached := reachedFrom(file, name)
		generic, ranged := false, false
		for _, decl := range file.Decls {
			function, ok := decl.(*ast.FuncDecl)
			if ok && reached[function.Name.Name] {
				generic = generic || function.Recv == nil && function.Type.TypeParams != nil
				ranged = ranged || rangesOverLength(function)
			}
		}
		if !generic || !ranged {
			t.Errorf("%s: comes to a generic function: %v, to a range over a whole number: %v", name, generic, ranged)
		}
	}
}

func hasGenericType(file *ast.File) bool {
	found := false
	ast.Inspect(file, func(n ast.Node) bool {
		spec, ok := n.(*ast.TypeSpec)
		found = found || ok && spec.TypeParams != nil
		return true
	})
	return found
}

func rangesOverLength(function *ast.FuncDecl) bool {
	found := false
	ast.Inspect(function, func(n ast.Node) bool {
		if loop, ok := n.(*ast.RangeStmt); ok {
			call, ok := loop.X.(*ast.CallExpr)
			found = found || ok && calledName(call) == "len"
		}
		return true
	})
	return found
}
