package tests

import (
	"go/ast"
	"go/token"
	"testing"
)

// TestLaneWays: lanes are got by shifts and masks; weightings are an array of arrays.
func TestLaneWays(t *testing.T) {
	shift, mask, table := false, false, false
	ast.Inspect(parseImpl(t, token.NewFileSet())["l01_lane.go"], func(n ast.Node) bool {
		switch x := n.(type) {
		case *ast.BinaryExpr:
			shift = shift || x.Op == token.SHR
			mask = mask || x.Op == token.AND
			if x.Op == token.QUO || x.Op == token.REM {
				t.Error("a lane is got by division")
			}
		case *ast.ArrayType:
			inner, ok := x.Elt.(*ast.ArrayType)
			table = table || ok && x.Len != nil && inner.Len != nil
		}
		return true
	})
	if !shift || !mask || !table {
		t.Errorf("shift %v, mask %v, array of arrays %v", shift, mask, table)
	}
}
