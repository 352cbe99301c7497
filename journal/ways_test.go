package journal_test

import (
	"go/ast"
	"go/parser"
	"go/token"
	"slices"
	"strconv"
	"strings"
	"testing"
)

func source(t *testing.T) *ast.File {
	f, err := parser.ParseFile(token.NewFileSet(), "journal.go", nil, 0)
	if err != nil {
		t.Fatal(err)
	}
	return f
}

// The chapter's section Ways: records are read until the reader breaks a labeled loop.
func TestRecordsAreReadInALabeledLoop(t *testing.T) {
	found := false
	ast.Inspect(source(t), func(n ast.Node) bool {
		x, ok := n.(*ast.LabeledStmt)
		if !ok {
			return true
		}
		loop, ok := x.Stmt.(*ast.ForStmt)
		if !ok {
			return true
		}
		reads, breaks := false, false
		ast.Inspect(loop, func(n ast.Node) bool {
			switch y := n.(type) {
			case *ast.SelectorExpr:
				reads = reads || y.Sel.Name == "Text"
			case *ast.BranchStmt:
				breaks = breaks || y.Tok == token.BREAK && y.Label != nil && y.Label.Name == x.Label.Name
			}
			return true
		})
		found = found || reads && breaks
		return true
	})
	if !found {
		t.Error("no labeled loop reads records until it is broken")
	}
}

// The chapter's section Ways: the list is returned as a copy.
func TestTheListIsReturnedAsACopy(t *testing.T) {
	found := false
	for _, d := range source(t).Decls {
		x, ok := d.(*ast.FuncDecl)
		if !ok || x.Name.Name != "All" {
			continue
		}
		ast.Inspect(x, func(n ast.Node) bool {
			switch y := n.(type) {
			case *ast.SelectorExpr:
				found = found || y.Sel.Name == "Clone"
			case *ast.CallExpr:
				f, ok := y.Fun.(*ast.Ident)
				found = found || ok && f.Name == "copy"
			}
			return true
		})
	}
	if !found {
		t.Error("All does not copy the list")
	}
}

// The chapter: journal imports api, wire and disk, and nothing else of the project.
func TestJournalImportsOnlyLowerLayers(t *testing.T) {
	for _, i := range source(t).Imports {
		path, err := strconv.Unquote(i.Path.Value)
		if err != nil || strings.HasPrefix(path, "kitbag") && !slices.Contains([]string{"kitbag/api", "kitbag/wire", "kitbag/disk"}, path) {
			t.Errorf("journal imports %s", i.Path.Value)
		}
	}
}
