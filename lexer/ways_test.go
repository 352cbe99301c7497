package lexer_test

import (
	"go/ast"
	"go/parser"
	"go/token"
	"slices"
	"strconv"
	"strings"
	"testing"
)

func source(t *testing.T) *ast.File {
	f, err := parser.ParseFile(token.NewFileSet(), "lexer.go", nil, 0)
	if err != nil {
		t.Fatal(err)
	}
	return f
}

// The chapter's section Ways: the bytes of signs are in an array.
func TestTheSignsAreInAnArray(t *testing.T) {
	found := false
	ast.Inspect(source(t), func(n ast.Node) bool {
		x, ok := n.(*ast.CompositeLit)
		if !ok {
			return true
		}
		// An array has a length, also if it is counted (...); a slice has none.
		if a, ok := x.Type.(*ast.ArrayType); !ok || a.Len == nil {
			return true
		}
		var bytes []string
		for _, y := range x.Elts {
			if c, ok := y.(*ast.BasicLit); ok && c.Kind == token.CHAR {
				bytes = append(bytes, strings.Trim(c.Value, "'"))
			}
		}
		slices.Sort(bytes)
		want := strings.Split(allSigns, "")
		slices.Sort(want)
		found = found || slices.Equal(bytes, want)
		return true
	})
	if !found {
		t.Error("no array has the bytes of all signs")
	}
}

// The chapter's section Ways: the reader of a quoted string breaks a labeled loop.
func TestAStringIsReadInALabeledLoop(t *testing.T) {
	found := false
	ast.Inspect(source(t), func(n ast.Node) bool {
		x, ok := n.(*ast.LabeledStmt)
		if !ok {
			return true
		}
		loop, ok := x.Stmt.(*ast.ForStmt)
		if !ok {
			return true
		}
		atQuote := false // it is broken in the case of a quote
		ast.Inspect(loop, func(n ast.Node) bool {
			c, ok := n.(*ast.CaseClause)
			if !ok || len(c.List) != 1 {
				return true
			}
			quote, ok := c.List[0].(*ast.BasicLit)
			for _, y := range c.Body {
				b, isBranch := y.(*ast.BranchStmt)
				atQuote = atQuote || ok && quote.Value == `'"'` && isBranch && b.Tok == token.BREAK && b.Label != nil && b.Label.Name == x.Label.Name
			}
			return true
		})
		found = found || atQuote
		return true
	})
	if !found {
		t.Error("no labeled loop reads a string until a quote breaks it")
	}
}

// The chapter: lexer imports api, and nothing else of the project.
func TestLexerImportsOnlyAPI(t *testing.T) {
	for _, i := range source(t).Imports {
		path, err := strconv.Unquote(i.Path.Value)
		if err != nil || strings.HasPrefix(path, "kitbag") && path != "kitbag/api" {
			t.Errorf("lexer imports %s", i.Path.Value)
		}
	}
}
