package frac_test

import (
	"go/parser"
	"go/token"
	"strconv"
	"strings"
	"testing"
)

// The chapter: frac imports api and big, and nothing else of the project. (Its section Ways requires no language feature.)
func TestFracImportsOnlyAPIAndBig(t *testing.T) {
	f, err := parser.ParseFile(token.NewFileSet(), "frac.go", nil, parser.ImportsOnly)
	if err != nil {
		t.Fatal(err)
	}
	for _, i := range f.Imports {
		path, err := strconv.Unquote(i.Path.Value)
		if err != nil || strings.HasPrefix(path, "kitbag") && path != "kitbag/api" && path != "kitbag/big" || path == "math/big" {
			t.Errorf("frac imports %s", i.Path.Value)
		}
	}
}
