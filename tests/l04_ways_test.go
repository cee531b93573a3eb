package tests

import (
	"go/ast"
	"go/token"
	"testing"
)

// TestMultipleWays: a lane's carry is a table that is a literal inside a
// function.
func TestMultipleWays(t *testing.T) {
	rows := 0
	for _, decl := range parseImpl(t, token.NewFileSet())["l04_multiple.go"].Decls {
		if group, ok := decl.(*ast.GenDecl); ok && group.Tok == token.VAR {
			t.Error("a variable stands outside the functions")
		}
		ast.Inspect(decl, func(n ast.Node) bool {
			switch x := n.(type) {
			case *ast.CompositeLit:
				if isRowOfDigits(x) {
					rows++
				}
			case *ast.BinaryExpr:
				if x.Op == token.QUO || x.Op == token.REM {
					t.Error("a carry is got by division")
				}
			}
			return true
		})
	}
	if rows < 2 {
		t.Errorf("%d rows of carries inside a function", rows)
	}
}

// isRowOfDigits asks for a number for each of the ten digits.
func isRowOfDigits(row *ast.CompositeLit) bool {
	for _, entry := range row.Elts {
		if number, ok := entry.(*ast.BasicLit); !ok || number.Kind != token.INT {
			return false
		}
	}
	return len(row.Elts) == 10
}
