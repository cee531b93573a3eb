package tests

import (
	"go/ast"
	"go/token"
	"testing"
)

// TestWordWays: a format is a type with methods, called through an interface;
// bits go between widths by conversions.
func TestWordWays(t *testing.T) {
	file := parseImpl(t, token.NewFileSet())["l10_word.go"]
	called := false
	for name, wanted := range interfacesOf(file) {
		if formats := typesWith(file, wanted); len(formats) < 2 {
			t.Errorf("%d types have the methods of %s", len(formats), name)
		}
		for _, decl := range file.Decls {
			called = called || callsOn(decl, namesOf(decl, name))
		}
	}
	if !called {
		t.Error("no method is called through an interface")
	}
	widths := map[string]bool{}
	ast.Inspect(file, func(n ast.Node) bool {
		if call, ok := n.(*ast.CallExpr); ok {
			widths[calledName(call)] = true
		}
		return true
	})
	if !widths["uint8"] || !widths["uint16"] || !widths["uint64"] {
		t.Error("bits do not go between widths by conversions")
	}
}

// interfacesOf are the file's interfaces with the names of their methods.
func interfacesOf(file *ast.File) map[string][]string {
	found := map[string][]string{}
	ast.Inspect(file, func(n ast.Node) bool {
		spec, ok := n.(*ast.TypeSpec)
		if !ok {
			return true
		}
		if kind, ok := spec.Type.(*ast.InterfaceType); ok {
			for _, method := range kind.Methods.List {
				for _, name := range method.Names {
					found[spec.Name.Name] = append(found[spec.Name.Name], name.Name)
				}
			}
		}
		return true
	})
	return found
}

// typesWith are the file's types that have all the methods.
func typesWith(file *ast.File, wanted []string) []string {
	has := map[string]map[string]bool{}
	for _, decl := range file.Decls {
		function, ok := decl.(*ast.FuncDecl)
		if !ok || function.Recv == nil {
			continue
		}
		if owner, ok := function.Recv.List[0].Type.(*ast.Ident); ok {
			if has[owner.Name] == nil {
				has[owner.Name] = map[string]bool{}
			}
			has[owner.Name][function.Name.Name] = true
		}
	}
	found := []string{}
	for owner, methods := range has {
		all := true
		for _, name := range wanted {
			all = all && methods[name]
		}
		if all {
			found = append(found, owner)
		}
	}
	return found
}

// callsOn asks for a method called on one of the names.
func callsOn(decl ast.Decl, names map[string]bool) bool {
	found := false
	ast.Inspect(decl, func(n ast.Node) bool {
		call, ok := n.(*ast.CallExpr)
		if !ok {
			return true
		}
		if chosen, ok := call.Fun.(*ast.SelectorExpr); ok {
			on, ok := chosen.X.(*ast.Ident)
			found = found || ok && names[on.Name]
		}
		return true
	})
	return found
}
