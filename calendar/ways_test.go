package calendar_test

import (
	"go/ast"
	"go/parser"
	"go/token"
	"slices"
	"strconv"
	"strings"
	"testing"
)

func source(t *testing.T) *ast.File {
	f, err := parser.ParseFile(token.NewFileSet(), "calendar.go", nil, 0)
	if err != nil {
		t.Fatal(err)
	}
	return f
}

// The chapter's section Ways: the numbers of days before each month are in an array.
func TestTheDaysBeforeEachMonthAreInAnArray(t *testing.T) {
	var want []string
	for month, days := 1, 0; month <= 12; month++ {
		want = append(want, strconv.Itoa(days))
		days += size(2001, month)
	}
	found := false
	ast.Inspect(source(t), func(n ast.Node) bool {
		x, ok := n.(*ast.CompositeLit)
		if !ok {
			return true
		}
		// An array has a length, also if it is counted (...); a slice has none.
		if a, ok := x.Type.(*ast.ArrayType); !ok || a.Len == nil {
			return true
		}
		var numbers []string
		for _, y := range x.Elts {
			if c, ok := y.(*ast.BasicLit); ok && c.Kind == token.INT {
				numbers = append(numbers, c.Value)
			}
		}
		found = found || slices.Equal(numbers, want)
		return true
	})
	if !found {
		t.Error("no array has the numbers of days before each month")
	}
}

// The chapter: calendar imports api, and nothing else of the project; and no layer asks a clock.
func TestCalendarImportsOnlyAPI(t *testing.T) {
	for _, i := range source(t).Imports {
		path, err := strconv.Unquote(i.Path.Value)
		if err != nil || strings.HasPrefix(path, "kitbag") && path != "kitbag/api" || path == "time" {
			t.Errorf("calendar imports %s", i.Path.Value)
		}
	}
}
