package big_test

import (
	"go/parser"
	"go/token"
	"strconv"
	"strings"
	"testing"
)

// The chapter: big imports api, and nothing else of the project. (Its section Ways requires no language feature.)
func TestBigImportsOnlyAPI(t *testing.T) {
	f, err := parser.ParseFile(token.NewFileSet(), "big.go", nil, parser.ImportsOnly)
	if err != nil {
		t.Fatal(err)
	}
	for _, i := range f.Imports {
		path, err := strconv.Unquote(i.Path.Value)
		if err != nil || strings.HasPrefix(path, "kitbag") && path != "kitbag/api" || path == "math/big" {
			t.Errorf("big imports %s", i.Path.Value)
		}
	}
}
