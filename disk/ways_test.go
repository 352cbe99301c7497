package disk_test

import (
	"go/ast"
	"go/parser"
	"go/token"
	"strconv"
	"strings"
	"testing"
)

func source(t *testing.T) *ast.File {
	f, err := parser.ParseFile(token.NewFileSet(), "disk.go", nil, 0)
	if err != nil {
		t.Fatal(err)
	}
	return f
}

// mapFields returns the fields of a type that are maps from file numbers.
func mapFields(f *ast.File, name string) map[string]bool {
	fields := map[string]bool{}
	ast.Inspect(f, func(n ast.Node) bool {
		x, ok := n.(*ast.TypeSpec)
		if !ok || x.Name.Name != name {
			return true
		}
		for _, field := range x.Type.(*ast.StructType).Fields.List {
			if m, ok := field.Type.(*ast.MapType); ok {
				if key, ok := m.Key.(*ast.Ident); ok && key.Name == "int" {
					for _, id := range field.Names {
						fields[id.Name] = true
					}
				}
			}
		}
		return false
	})
	return fields
}

// copied returns the fields of d that a method gives, as a whole, to a function that copies.
func copied(f *ast.File, method string) map[string]bool {
	fields := map[string]bool{}
	for _, d := range f.Decls {
		x, ok := d.(*ast.FuncDecl)
		if !ok || x.Name.Name != method {
			continue
		}
		ast.Inspect(x, func(n ast.Node) bool {
			call, ok := n.(*ast.CallExpr)
			if !ok || len(call.Args) != 1 {
				return true
			}
			if s, ok := call.Args[0].(*ast.SelectorExpr); ok {
				fields[s.Sel.Name] = true
			}
			return true
		})
	}
	return fields
}

// The chapter's section Ways: files are kept in a map, which is copied as a whole.
func TestFilesAreAMapThatIsCopied(t *testing.T) {
	f := source(t)
	maps := mapFields(f, "Disk")
	if len(maps) == 0 {
		t.Error("no map keeps the files")
	}
	for name := range maps {
		if !copied(f, "Copy")[name] {
			t.Errorf("Copy does not copy %s as a whole", name)
		}
	}
}

// The chapter: disk imports api, and nothing else of the project.
func TestDiskImportsOnlyAPI(t *testing.T) {
	for _, i := range source(t).Imports {
		path, err := strconv.Unquote(i.Path.Value)
		if err != nil || strings.HasPrefix(path, "kitbag") && path != "kitbag/api" {
			t.Errorf("disk imports %s", i.Path.Value)
		}
	}
}
