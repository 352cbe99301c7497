package scale_test

import (
	"go/parser"
	"go/token"
	"strconv"
	"strings"
	"testing"
)

// The chapter: scale imports api and frac, and nothing else of the project. (Its section Ways requires no language feature.)
func TestScaleImportsOnlyAPIAndFrac(t *testing.T) {
	f, err := parser.ParseFile(token.NewFileSet(), "scale.go", nil, parser.ImportsOnly)
	if err != nil {
		t.Fatal(err)
	}
	for _, i := range f.Imports {
		path, err := strconv.Unquote(i.Path.Value)
		if err != nil || strings.HasPrefix(path, "kitbag") && path != "kitbag/api" && path != "kitbag/frac" {
			t.Errorf("scale imports %s", i.Path.Value)
		}
	}
}
