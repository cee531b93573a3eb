package tests

import (
	"go/ast"
	"go/token"
	"testing"
)

// TestRootWays: there is a loop that is left by the name of a label, its own
// or that of one around it.
func TestRootWays(t *testing.T) {
	left := false
	ast.Inspect(parseImpl(t, token.NewFileSet())["l08_root.go"], func(n ast.Node) bool {
		labelled, ok := n.(*ast.LabeledStmt)
		if ok && isLoop(labelled.Stmt) {
			left = left || isLeft(labelled.Stmt, labelled.Label.Name)
		}
		return true
	})
	if !left {
		t.Error("no loop is left by a label")
	}
}

func isLoop(n ast.Node) bool {
	switch n.(type) {
	case *ast.ForStmt, *ast.RangeStmt:
		return true
	}
	return false
}

// isLeft finds a break to the label, or a continue to it out of a loop within.
func isLeft(loop ast.Node, label string) bool {
	found := false
	ast.Inspect(loop, func(n ast.Node) bool {
		found = found || branches(n, token.BREAK, label)
		if n != loop && isLoop(n) {
			ast.Inspect(n, func(inner ast.Node) bool {
				found = found || branches(inner, token.CONTINUE, label)
				return true
			})
		}
		return true
	})
	return found
}

func branches(n ast.Node, by token.Token, label string) bool {
	branch, ok := n.(*ast.BranchStmt)
	return ok && branch.Tok == by && branch.Label != nil && branch.Label.Name == label
}
