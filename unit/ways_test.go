package unit_test

import (
	"go/parser"
	"go/token"
	"strconv"
	"strings"
	"testing"
)

// The chapter: unit imports api, frac and dim, and nothing else of the project. (Its section Ways requires no language feature.)
func TestUnitImportsOnlyAPIFracAndDim(t *testing.T) {
	f, err := parser.ParseFile(token.NewFileSet(), "unit.go", nil, parser.ImportsOnly)
	if err != nil {
		t.Fatal(err)
	}
	for _, i := range f.Imports {
		path, err := strconv.Unquote(i.Path.Value)
		if err != nil || strings.HasPrefix(path, "kitbag") && path != "kitbag/api" && path != "kitbag/frac" && path != "kitbag/dim" {
			t.Errorf("unit imports %s", i.Path.Value)
		}
	}
}
