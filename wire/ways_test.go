package wire_test

import (
	"go/ast"
	"go/parser"
	"go/token"
	"strconv"
	"strings"
	"testing"
)

func source(t *testing.T) *ast.File {
	f, err := parser.ParseFile(token.NewFileSet(), "wire.go", nil, 0)
	if err != nil {
		t.Fatal(err)
	}
	return f
}

// The chapter's section Ways: lists are written and read by generic functions that take method values and functions.
func TestListsGoThroughGenericFunctions(t *testing.T) {
	f := source(t)
	generic := map[string]bool{}
	for _, d := range f.Decls {
		if x, ok := d.(*ast.FuncDecl); ok && x.Type.TypeParams != nil {
			generic[x.Name.Name] = true
		}
	}
	given := map[string]bool{} // the functions and the method values that generic functions take
	ast.Inspect(f, func(n ast.Node) bool {
		x, ok := n.(*ast.CallExpr)
		if !ok {
			return true
		}
		if name, ok := x.Fun.(*ast.Ident); !ok || !generic[name.Name] {
			return true
		}
		switch last := x.Args[len(x.Args)-1].(type) {
		case *ast.Ident:
			given[last.Name] = true
		case *ast.SelectorExpr:
			given["r."+last.Sel.Name] = true
		}
		return true
	})
	for _, name := range []string{"Int", "Text", "r.Int", "r.Text"} {
		if !given[name] {
			t.Errorf("no generic function takes %s", name)
		}
	}
}

// The chapter: wire imports nothing (no other layer, and not api).
func TestWireImportsNothingOfTheProject(t *testing.T) {
	for _, i := range source(t).Imports {
		path, err := strconv.Unquote(i.Path.Value)
		if err != nil || path == "kitbag" || strings.HasPrefix(path, "kitbag/") {
			t.Errorf("wire imports %s", i.Path.Value)
		}
	}
}
