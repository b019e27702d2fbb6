package rules

import (
	"go/ast"
	"go/importer"
	"go/parser"
	"go/token"
	"go/types"
	"path/filepath"
	"strings"
	"testing"
)

const module = "tallymark"

// loader types the project's packages, each once.
type loader struct {
	fset    *token.FileSet
	info    *types.Info
	library types.Importer
	files   map[string][]*ast.File
	done    map[string]*types.Package
}

func newLoader() *loader {
	fset := token.NewFileSet()
	return &loader{
		fset: fset,
		info: &types.Info{
			Types:      map[ast.Expr]types.TypeAndValue{},
			Uses:       map[*ast.Ident]types.Object{},
			Selections: map[*ast.SelectorExpr]*types.Selection{},
		},
		library: importer.ForCompiler(fset, "source", nil),
		files:   map[string][]*ast.File{},
		done:    map[string]*types.Package{},
	}
}

func (l *loader) Import(path string) (*types.Package, error) {
	if !strings.HasPrefix(path, module+"/") {
		return l.library.Import(path)
	}
	if p := l.done[path]; p != nil {
		return p, nil
	}
	names, err := filepath.Glob(filepath.Join("..", strings.TrimPrefix(path, module), "*.go"))
	if err != nil {
		return nil, err
	}
	for _, name := range names {
		if strings.HasSuffix(name, "_test.go") {
			continue
		}
		f, err := parser.ParseFile(l.fset, name, nil, 0)
		if err != nil {
			return nil, err
		}
		l.files[path] = append(l.files[path], f)
	}
	config := types.Config{Importer: l}
	p, err := config.Check(path, l.fset, l.files[path], l.info)
	l.done[path] = p
	return p, err
}

// ways tells how often a package goes each of the ways that are looked for.
func (l *loader) ways(t *testing.T, name string) map[string]int {
	if _, err := l.Import(module + "/" + name); err != nil {
		t.Fatal(err)
	}
	got := map[string]int{}
	for _, f := range l.files[module+"/"+name] {
		ast.Inspect(f, func(n ast.Node) bool {
			switch x := n.(type) {
			case *ast.RangeStmt:
				switch y := l.info.Types[x.X].Type.Underlying().(type) {
				case *types.Basic:
					if y.Info()&types.IsInteger != 0 {
						got["range-integer"]++
					}
				case *types.Signature:
					got["range-function"]++
				}
			case *ast.FuncLit:
				got["closure"]++
			case *ast.LabeledStmt:
				got["label"]++
			case *ast.Ellipsis:
				if x.Elt != nil {
					got["variadic"]++
				}
			case *ast.InterfaceType:
				if len(x.Methods.List) > 0 {
					got["interface"]++
				}
			case *ast.StructType:
				for _, field := range x.Fields.List {
					if len(field.Names) == 0 {
						got["embedding"]++
					}
				}
			case *ast.SelectorExpr:
				s := l.info.Selections[x]
				if s != nil && len(s.Index()) > 1 {
					got["promoted"]++
				}
				if s != nil && types.IsInterface(s.Recv()) {
					got["interface-call"]++
				}
			case *ast.ArrayType:
				if x.Len != nil {
					got["array"]++
				}
			case *ast.Ident:
				switch y := l.info.Uses[x].(type) {
				case *types.Builtin:
					got[y.Name()]++
				case *types.Const:
					if y == types.Universe.Lookup("iota") {
						got["iota"]++
					}
				}
			}
			return true
		})
	}
	return got
}

// Ways, layers 1 and 2: bytes come by ..., and are copied; groups are gone
// through by a range over a number. Layers 3 and 4: bytes come by ..., and are
// turned by an array, that is made by a range over a number. Layers 5 and 6:
// words come by .... Layers 7 and 8: digits are made by a range over a number.
// Layers 9 and 10: a tape embeds where it is, whose fields are its own by
// promotion; coins come by ..., and are asked by a range over a number. Layers
// 11 and 12: what is too great is drawn again by a label; places come by ...,
// coins by a range over a number. Layers 13 and 14: places are gone through by a
// range over a function, which is made as a closure; places come by .... Layers
// 15 and 16: kinds are an interface, whose calls step, counted by iota; a step is
// handed in as a function; states come by ....
func TestWays(t *testing.T) {
	l := newLoader()
	for _, x := range []struct{ name, ways string }{
		{"bits", "variadic copy range-integer"},
		{"codes", "range-integer"},
		{"pack", "range-integer"},
		{"crc", "variadic array range-integer"},
		{"nat", "variadic"},
		{"logs", "range-integer"},
		{"tape", "embedding promoted variadic"},
		{"flip", "range-integer"},
		{"draw", "label range-integer"},
		{"morris", "variadic"},
		{"float", "variadic"},
		{"yu", "range-function closure variadic"},
		{"chain", "interface interface-call iota closure variadic"},
		{"thin", "closure variadic"},
	} {
		got := l.ways(t, x.name)
		for _, way := range strings.Fields(x.ways) {
			if got[way] == 0 {
				t.Errorf("%s: nothing by %s", x.name, way)
			}
		}
	}
}
