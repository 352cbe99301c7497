package dim_test

import (
	"go/ast"
	"go/importer"
	"go/parser"
	"go/token"
	"go/types"
	"strconv"
	"strings"
	"testing"
)

// library imports packages: api from its folder, the standard library from its sources.
type library struct {
	set      *token.FileSet
	standard types.Importer
}

func (l library) Import(path string) (*types.Package, error) {
	if path != "kitbag/api" {
		return l.standard.Import(path)
	}
	f, err := parser.ParseFile(l.set, "../api/api.go", nil, 0)
	if err != nil {
		return nil, err
	}
	return (&types.Config{Importer: l}).Check(path, l.set, []*ast.File{f}, nil)
}

// The chapter's section Ways: dimensions are arrays, and they are compared as arrays.
func TestDimensionsAreComparedAsArrays(t *testing.T) {
	set := token.NewFileSet()
	f, err := parser.ParseFile(set, "dim.go", nil, 0)
	if err != nil {
		t.Fatal(err)
	}
	info := types.Info{Types: map[ast.Expr]types.TypeAndValue{}}
	config := types.Config{Importer: library{set, importer.ForCompiler(set, "source", nil)}}
	if _, err := config.Check("kitbag/dim", set, []*ast.File{f}, &info); err != nil {
		t.Fatal(err)
	}
	found := false
	ast.Inspect(f, func(n ast.Node) bool {
		x, ok := n.(*ast.BinaryExpr)
		if !ok || x.Op != token.EQL && x.Op != token.NEQ {
			return true
		}
		of := info.Types[x.X].Type
		_, isArray := of.Underlying().(*types.Array)
		found = found || isArray && of.String() == "kitbag/api.Dim"
		return true
	})
	if !found {
		t.Error("no dimensions are compared as arrays")
	}
}

// The chapter: dim imports api, and nothing else of the project.
func TestDimImportsOnlyAPI(t *testing.T) {
	f, err := parser.ParseFile(token.NewFileSet(), "dim.go", nil, parser.ImportsOnly)
	if err != nil {
		t.Fatal(err)
	}
	for _, i := range f.Imports {
		path, err := strconv.Unquote(i.Path.Value)
		if err != nil || strings.HasPrefix(path, "kitbag") && path != "kitbag/api" {
			t.Errorf("dim imports %s", i.Path.Value)
		}
	}
}
