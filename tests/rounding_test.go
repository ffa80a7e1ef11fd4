package tests

import (
	"go/ast"
	"go/importer"
	"go/parser"
	"go/token"
	"go/types"
	"path/filepath"
	"testing"
)

// TestProductsAreConverted reads the program: a product of floats that is not
// the argument of a conversion may be joined with a sum, unrounded, on machines
// other than the one that runs the tests, where no result would show it.
func TestProductsAreConverted(t *testing.T) {
	fset := token.NewFileSet()
	paths, err := filepath.Glob("../impl/*.go")
	if err != nil || len(paths) == 0 {
		t.Fatal("no program", err)
	}
	var files []*ast.File
	for _, path := range paths {
		f, err := parser.ParseFile(fset, path, nil, 0)
		if err != nil {
			t.Fatal(err)
		}
		files = append(files, f)
	}
	info := &types.Info{Types: map[ast.Expr]types.TypeAndValue{}}
	config := types.Config{Importer: importer.ForCompiler(fset, "source", nil)}
	if _, err := config.Check("impl", fset, files, info); err != nil {
		t.Fatal(err)
	}
	for _, f := range files {
		for _, at := range bareProducts(f, info) {
			t.Errorf("%s: a product that is not converted", fset.Position(at))
		}
	}
}

func bareProducts(f *ast.File, info *types.Info) []token.Pos {
	var found []token.Pos
	converted := map[ast.Expr]bool{}
	ast.Inspect(f, func(n ast.Node) bool {
		switch x := n.(type) {
		case *ast.CallExpr:
			if info.Types[x.Fun].IsType() && len(x.Args) == 1 {
				converted[ast.Unparen(x.Args[0])] = true
			}
		case *ast.BinaryExpr:
			if x.Op == token.MUL && isMadeFloat(info.Types[x]) && !converted[x] {
				found = append(found, x.Pos())
			}
		case *ast.AssignStmt:
			if x.Tok == token.MUL_ASSIGN && isMadeFloat(info.Types[x.Lhs[0]]) {
				found = append(found, x.Pos())
			}
		}
		return true
	})
	return found
}

// isMadeFloat reports whether a value is a float that is calculated when the program runs.
func isMadeFloat(v types.TypeAndValue) bool {
	if v.Type == nil || v.Value != nil {
		return false
	}
	b, ok := v.Type.Underlying().(*types.Basic)
	return ok && b.Info()&types.IsFloat != 0
}
