package tests

import (
	"go/ast"
	"go/token"
	"testing"
)

// TestSelectWays: a cell is a struct that is a key of a map; points are
// compared as structs.
func TestSelectWays(t *testing.T) {
	file := parseImpl(t, token.NewFileSet())["l06_select.go"]
	structs := structsOf(file)
	if !structs["cell"] || !structs["point"] {
		t.Fatalf("cell a struct %v, point a struct %v", structs["cell"], structs["point"])
	}
	keyed, compared := false, false
	for _, decl := range file.Decls {
		points := namesOf(decl, "point")
		ast.Inspect(decl, func(n ast.Node) bool {
			switch x := n.(type) {
			case *ast.MapType:
				keyed = keyed || isNamed(x.Key, "cell")
			case *ast.BinaryExpr:
				name, ok := x.Y.(*ast.Ident)
				compared = compared || ok && x.Op == token.EQL && points[name.Name]
			}
			return true
		})
	}
	if !keyed || !compared {
		t.Errorf("a cell is a key %v, points are compared %v", keyed, compared)
	}
}

// structsOf are the names of the file's struct types.
func structsOf(file *ast.File) map[string]bool {
	structs := map[string]bool{}
	ast.Inspect(file, func(n ast.Node) bool {
		if spec, ok := n.(*ast.TypeSpec); ok {
			_, structs[spec.Name.Name] = spec.Type.(*ast.StructType)
		}
		return true
	})
	return structs
}

// namesOf are the parameters and fields inside a declaration that are of the
// type.
func namesOf(decl ast.Node, typeName string) map[string]bool {
	names := map[string]bool{}
	ast.Inspect(decl, func(n ast.Node) bool {
		if field, ok := n.(*ast.Field); ok && isNamed(field.Type, typeName) {
			for _, name := range field.Names {
				names[name.Name] = true
			}
		}
		return true
	})
	return names
}

func isNamed(expression ast.Expr, name string) bool {
	identifier, ok := expression.(*ast.Ident)
	return ok && identifier.Name == name
}
