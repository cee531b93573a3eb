package tests

import (
	"go/ast"
	"go/token"
	"testing"
)

// TestSignedWays: registers are slices that are cut by three indices and
// copied.
func TestSignedWays(t *testing.T) {
	cut, copied := false, false
	ast.Inspect(parseImpl(t, token.NewFileSet())["l03_signed.go"], func(n ast.Node) bool {
		switch x := n.(type) {
		case *ast.SliceExpr:
			cut = cut || x.Slice3
		case *ast.CallExpr:
			name, ok := x.Fun.(*ast.Ident)
			copied = copied || ok && name.Name == "copy"
		}
		return true
	})
	if !cut || !copied {
		t.Errorf("cut by three indices %v, copied %v", cut, copied)
	}
}
