package tests

import (
	"go/ast"
	"go/token"
	"testing"
)

// TestSaveWays: bits are joined by and, or and exclusive or; what leaves is a
// conversion between widths.
func TestSaveWays(t *testing.T) {
	joins := map[token.Token]bool{}
	converts := false
	ast.Inspect(parseImpl(t, token.NewFileSet())["l02_save.go"], func(n ast.Node) bool {
		switch x := n.(type) {
		case *ast.BinaryExpr:
			joins[x.Op] = true
		case *ast.CallExpr:
			name, ok := x.Fun.(*ast.Ident)
			converts = converts || ok && name.Name == "uint8"
		}
		return true
	})
	if !joins[token.AND] || !joins[token.OR] || !joins[token.XOR] || !converts {
		t.Errorf("joins %v, conversion %v", joins, converts)
	}
}
