package tests

import (
	"go/ast"
	"go/token"
	"testing"
)

// TestSumWays: each of the five comes to a panic and to a deferred function
// literal that recovers.
func TestSumWays(t *testing.T) {
	file := parseImpl(t, token.NewFileSet())["l13_sum.go"]
	catchers := deferredCatchers(file)
	for _, name := range []string{"Add", "Sub", "Mul", "Fma", "Scale"} {
		reached := reachedFrom(file, name)
		caught := false
		for catcher := range catchers {
			caught = caught || reached[catcher]
		}
		if !reached["panic"] || !caught {
			t.Errorf("%s: comes to a panic: %v, to one that catches it: %v", name, reached["panic"], caught)
		}
	}
}

// TestRecoverIsDeferred: nowhere in the program stands a recover but in a
// function literal that is deferred.
func TestRecoverIsDeferred(t *testing.T) {
	for name, file := range parseImpl(t, token.NewFileSet()) {
		deferred := 0
		ast.Inspect(file, func(n ast.Node) bool {
			if put, ok := n.(*ast.DeferStmt); ok {
				deferred += recoversIn(put.Call.Fun)
			}
			return true
		})
		if all := callsOf(file, "recover"); all != deferred {
			t.Errorf("%s: %d of %d recovers are deferred", name, deferred, all)
		}
	}
}

// deferredCatchers are the functions that defer a literal with a recover.
func deferredCatchers(file *ast.File) map[string]bool {
	catchers := map[string]bool{}
	for _, decl := range file.Decls {
		function, ok := decl.(*ast.FuncDecl)
		if !ok {
			continue
		}
		ast.Inspect(function, func(n ast.Node) bool {
			if put, ok := n.(*ast.DeferStmt); ok && recoversIn(put.Call.Fun) > 0 {
				catchers[function.Name.Name] = true
			}
			return true
		})
	}
	return catchers
}

func recoversIn(called ast.Expr) int {
	if literal, ok := called.(*ast.FuncLit); ok {
		return callsOf(literal, "recover")
	}
	return 0
}

func callsOf(within ast.Node, name string) int {
	count := 0
	ast.Inspect(within, func(n ast.Node) bool {
		if call, ok := n.(*ast.CallExpr); ok && isNamed(call.Fun, name) {
			count++
		}
		return true
	})
	return count
}
