package tests

import (
	"go/ast"
	"go/token"
	"testing"
)

// TestProductWays: Product and Rows go through the rows by a range over a
// function.
func TestProductWays(t *testing.T) {
	file := parseImpl(t, token.NewFileSet())["l05_product.go"]
	makers := rangeMakers(file)
	for _, name := range []string{"Product", "Rows"} {
		ranged := false
		ast.Inspect(functionNamed(t, file, name), func(n ast.Node) bool {
			if loop, ok := n.(*ast.RangeStmt); ok {
				call, ok := loop.X.(*ast.CallExpr)
				ranged = ranged || ok && makers[calledName(call)]
			}
			return true
		})
		if !ranged {
			t.Errorf("%s has no range over a function", name)
		}
	}
}

// rangeMakers are the functions that answer a function to range over: they
// hold a function literal with a yield.
func rangeMakers(file *ast.File) map[string]bool {
	makers := map[string]bool{}
	for _, decl := range file.Decls {
		function, ok := decl.(*ast.FuncDecl)
		if !ok {
			continue
		}
		ast.Inspect(function, func(n ast.Node) bool {
			call, ok := n.(*ast.CallExpr)
			if ok && calledName(call) == "yield" {
				makers[function.Name.Name] = true
			}
			return true
		})
	}
	return makers
}

func functionNamed(t *testing.T, file *ast.File, name string) *ast.FuncDecl {
	t.Helper()
	for _, decl := range file.Decls {
		if function, ok := decl.(*ast.FuncDecl); ok && function.Name.Name == name {
			return function
		}
	}
	t.Fatalf("there is no function %s", name)
	return nil
}

func calledName(call *ast.CallExpr) string {
	if name, ok := call.Fun.(*ast.Ident); ok {
		return name.Name
	}
	return ""
}
