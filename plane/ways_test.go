package plane_test

import (
	"go/ast"
	"go/build"
	"go/importer"
	"go/parser"
	"go/token"
	"go/types"
	"maps"
	"os/exec"
	"slices"
	"strings"
	"testing"
)

// read is the package's files, without its tests, and what they say of types.
func read(t *testing.T) ([]*ast.File, *types.Info) {
	t.Helper()
	if build.Default.GOROOT == "" {
		root, err := exec.Command("go", "env", "GOROOT").Output()
		if err != nil {
			t.Fatal(err)
		}
		build.Default.GOROOT = strings.TrimSpace(string(root))
	}
	dir, err := build.ImportDir(".", 0)
	if err != nil {
		t.Fatal(err)
	}
	places := token.NewFileSet()
	var files []*ast.File
	for _, name := range dir.GoFiles {
		f, err := parser.ParseFile(places, name, nil, 0)
		if err != nil {
			t.Fatal(err)
		}
		files = append(files, f)
	}
	info := &types.Info{Types: map[ast.Expr]types.TypeAndValue{}}
	conf := types.Config{Importer: importer.ForCompiler(places, "source", nil)}
	if _, err := conf.Check("cohort/plane", places, files, info); err != nil {
		t.Fatal(err)
	}
	return files, info
}

// way is which of the language's ways a piece of the program is; "": none of those that are looked for.
func way(n ast.Node, info *types.Info) string {
	switch x := n.(type) {
	case *ast.TypeSpec:
		if x.TypeParams != nil {
			return "generic-type"
		}
	case *ast.RangeStmt:
		if _, ok := info.TypeOf(x.X).Underlying().(*types.Signature); ok {
			return "range-function"
		}
	case *ast.BinaryExpr:
		if _, ok := info.TypeOf(x.X).Underlying().(*types.Struct); ok {
			return "struct-compared"
		}
	}
	return ""
}

// Ways: batches are gone over by functions that are ranged over, and stand in maps of one generic type, of keys that are structs, too.
func TestWays(t *testing.T) {
	files, info := read(t)
	found := map[string]bool{}
	for _, f := range files {
		ast.Inspect(f, func(n ast.Node) bool {
			found[way(n, info)] = true
			return true
		})
	}
	delete(found, "")
	if got := slices.Sorted(maps.Keys(found)); !slices.Equal(got, []string{"generic-type", "range-function", "struct-compared"}) {
		t.Errorf("the package's ways are %q", got)
	}
}
