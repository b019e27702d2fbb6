// Package rules holds the program's text against the language it may be
// written in, and against the ways that the document asks for. It has tests
// alone.
package rules

import (
	"bytes"
	"go/ast"
	"go/format"
	"go/parser"
	"go/token"
	"go/types"
	"os"
	"path/filepath"
	"strconv"
	"strings"
	"testing"
)

// library is what may be imported beside the project's own packages.
const library = " bytes cmp container/heap errors iter maps math math/bits slices sort strconv strings sync sync/atomic unicode unicode/utf8 "

// longest is how many lines a function may have.
const longest = 60

// packages are the program's own, by name: other folders may be laid beside
// them when it is tested, and aren't held to its language.
const packages = "api bits codes pack crc nat whole rat logs tape flip draw morris float yu chain thin reg carray sac hash cms ams pmf tails wire sketch script bounds kernel audit"

type source struct {
	path string
	text []byte
	file *ast.File
}

// program tells the Go files of all packages, tests left out.
func program(t *testing.T, fset *token.FileSet) []source {
	var l []source
	for _, name := range strings.Fields(packages) {
		paths, _ := filepath.Glob(filepath.Join("..", name, "*.go"))
		if len(paths) == 0 {
			t.Errorf("package %s has no file", name)
		}
		for _, path := range paths {
			if strings.HasSuffix(path, "_test.go") {
				continue
			}
			text, err := os.ReadFile(path)
			if err != nil {
				t.Fatal(err)
			}
			file, err := parser.ParseFile(fset, path, text, parser.ParseComments)
			if err != nil {
				t.Fatal(err)
			}
			l = append(l, source{path, text, file})
		}
	}
	return l
}

// Rule 1 of the language: what may be imported.
func TestImports(t *testing.T) {
	for _, s := range program(t, token.NewFileSet()) {
		for _, x := range s.file.Imports {
			path, _ := strconv.Unquote(x.Path.Value)
			if !strings.HasPrefix(path, "tallymark/") && !strings.Contains(library, " "+path+" ") {
				t.Errorf("%s imports %s", s.path, path)
			}
			if x.Name != nil && x.Name.Name == "." {
				t.Errorf("%s: %s without its name", s.path, path)
			}
			if path == "iter" && (bytes.Contains(s.text, []byte(".Pull(")) || bytes.Contains(s.text, []byte(".Pull2("))) {
				t.Errorf("%s pulls", s.path)
			}
		}
	}
}

// Rule 2 of the language: no lines to the compiler, no build tags, and no
// other file in a package's folder.
func TestLines(t *testing.T) {
	folders := map[string]bool{}
	for _, s := range program(t, token.NewFileSet()) {
		folders[filepath.Dir(s.path)] = true
		for _, c := range s.file.Comments {
			for _, line := range c.List {
				if strings.HasPrefix(line.Text, "//go:") || strings.HasPrefix(line.Text, "// +build") {
					t.Errorf("%s: %s", s.path, line.Text)
				}
			}
		}
	}
	for folder := range folders {
		all, err := os.ReadDir(folder)
		if err != nil {
			t.Fatal(err)
		}
		for _, f := range all {
			if !strings.HasSuffix(f.Name(), ".go") && f.Name() != "testdata" {
				t.Errorf("%s: beside the Go files", filepath.Join(folder, f.Name()))
			}
		}
	}
}

// Rules 3a and 3b of the language: what stands at package level.
func TestPackageLevel(t *testing.T) {
	for _, s := range program(t, token.NewFileSet()) {
		for _, d := range s.file.Decls {
			g, ok := d.(*ast.GenDecl)
			if !ok || g.Tok != token.VAR {
				continue
			}
			for _, spec := range g.Specs {
				v := spec.(*ast.ValueSpec)
				if len(v.Values) != len(v.Names) {
					t.Errorf("%s: %s has no value of its own", s.path, v.Names[0].Name)
				}
				for _, x := range v.Values {
					tableOnly(t, s.path, x)
				}
			}
		}
	}
}

// tableOnly refuses what a table may not be made of.
func tableOnly(t *testing.T, path string, x ast.Expr) {
	ast.Inspect(x, func(n ast.Node) bool {
		switch y := n.(type) {
		case *ast.CallExpr:
			if types.ExprString(y.Fun) != "errors.New" {
				t.Errorf("%s: a value at package level made by a call", path)
			}
		case *ast.UnaryExpr:
			if y.Op == token.AND {
				t.Errorf("%s: a pointer at package level", path)
			}
		case *ast.FuncLit, *ast.MapType:
			t.Errorf("%s: a function or a map at package level", path)
		case *ast.BasicLit:
			if y.Kind == token.FLOAT {
				t.Errorf("%s: a float at package level", path)
			}
		}
		return true
	})
}

// Rule 9 of the language: short functions, in gofmt's layout.
func TestLayout(t *testing.T) {
	fset := token.NewFileSet()
	for _, s := range program(t, fset) {
		if laid, err := format.Source(s.text); err != nil || !bytes.Equal(laid, s.text) {
			t.Errorf("%s: not in gofmt's layout (%v)", s.path, err)
		}
		for _, d := range s.file.Decls {
			f, ok := d.(*ast.FuncDecl)
			if !ok {
				continue
			}
			if n := fset.Position(f.End()).Line - fset.Position(f.Pos()).Line + 1; n > longest {
				t.Errorf("%s: %s has %d lines", s.path, f.Name.Name, n)
			}
		}
	}
}
