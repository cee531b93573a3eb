package tests

import (
	"go/ast"
	"go/token"
	"testing"
)

// TestTextWays: ReadNum comes to a reader of runes whose states are labels that
// are gone to, some back and some onward.
func TestTextWays(t *testing.T) {
	file := parseImpl(t, token.NewFileSet())["l16_text.go"]
	reached := reachedFrom(file, "ReadNum")
	back, onward, runes := 0, 0, false
	for _, decl := range file.Decls {
		function, ok := decl.(*ast.FuncDecl)
		if !ok || !reached[function.Name.Name] {
			continue
		}
		labels := labelsOf(function)
		ast.Inspect(function, func(n ast.Node) bool {
			if branch, ok := n.(*ast.BranchStmt); ok && branch.Tok == token.GOTO {
				if labels[branch.Label.Name] < branch.Pos() {
					back++
				} else {
					onward++
				}
			}
			if list, ok := n.(*ast.ArrayType); ok {
				runes = runes || isNamed(list.Elt, "rune")
			}
			return true
		})
	}
	if back == 0 || onward == 0 || !runes {
		t.Errorf("ReadNum comes to %d gotos back, to %d onward, to letters as runes: %v", back, onward, runes)
	}
}

// labelsOf tells where each label of a function stands.
func labelsOf(function *ast.FuncDecl) map[string]token.Pos {
	labels := map[string]token.Pos{}
	ast.Inspect(function, func(n ast.Node) bool {
		if labelled, ok := n.(*ast.LabeledStmt); ok {
			labels[labelled.Label.Name] = labelled.Pos()
		}
		return true
	})
	return labels
}
