package counter_test

import (
	"go/parser"
	"go/token"
	"slices"
	"strconv"
	"strings"
	"testing"
)

// The chapter: counter imports api, frac, lexer, span and scale, and nothing else of the project. (Its section Ways requires no language feature.)
func TestCounterImportsOnlyWhatTheChapterNames(t *testing.T) {
	f, err := parser.ParseFile(token.NewFileSet(), "counter.go", nil, parser.ImportsOnly)
	if err != nil {
		t.Fatal(err)
	}
	named := []string{"kitbag/api", "kitbag/frac", "kitbag/lexer", "kitbag/span", "kitbag/scale"}
	for _, i := range f.Imports {
		path, err := strconv.Unquote(i.Path.Value)
		if err != nil || strings.HasPrefix(path, "kitbag") && !slices.Contains(named, path) {
			t.Errorf("counter imports %s", i.Path.Value)
		}
	}
}
