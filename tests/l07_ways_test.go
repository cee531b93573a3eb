package tests

import (
	"go/ast"
	"go/token"
	"testing"
)

// TestQuotientWays: Divide ranges over a channel that a goroutine sends its
// turns to and closes.
func TestQuotientWays(t *testing.T) {
	file := parseImpl(t, token.NewFileSet())["l07_quotient.go"]
	makers := channelMakers(file)
	ranged := false
	ast.Inspect(functionNamed(t, file, "Divide"), func(n ast.Node) bool {
		if loop, ok := n.(*ast.RangeStmt); ok {
			call, ok := loop.X.(*ast.CallExpr)
			ranged = ranged || ok && makers[calledName(call)]
		}
		return true
	})
	if !ranged {
		t.Error("Divide has no range over the channel of a goroutine")
	}
}

// channelMakers are the functions that answer a channel, with a goroutine
// inside that sends and closes.
func channelMakers(file *ast.File) map[string]bool {
	makers := map[string]bool{}
	for _, decl := range file.Decls {
		function, ok := decl.(*ast.FuncDecl)
		if !ok || function.Type.Results == nil {
			continue
		}
		if _, ok := function.Type.Results.List[0].Type.(*ast.ChanType); !ok {
			continue
		}
		ast.Inspect(function, func(n ast.Node) bool {
			if started, ok := n.(*ast.GoStmt); ok && sendsAndCloses(started) {
				makers[function.Name.Name] = true
			}
			return true
		})
	}
	return makers
}

func sendsAndCloses(started *ast.GoStmt) bool {
	sends, closes := false, false
	ast.Inspect(started, func(n ast.Node) bool {
		switch x := n.(type) {
		case *ast.SendStmt:
			sends = true
		case *ast.CallExpr:
			closes = closes || calledName(x) == "close"
		}
		return true
	})
	return sends && closes
}
