package tests

import (
	"bytes"
	"go/ast"
	"go/format"
	"go/parser"
	"go/token"
	"os"
	"path/filepath"
	"slices"
	"strings"
	"testing"
)

const longestFunction = 60

var allowedImports = strings.Fields("bytes cmp container/heap errors iter maps math math/bits slices sort strconv strings sync sync/atomic unicode unicode/utf8")

type source struct {
	name string
	text []byte
	fset *token.FileSet
	file *ast.File
}

func sources(t *testing.T) []source {
	names, err := filepath.Glob("../impl/*")
	if err != nil || len(names) == 0 {
		t.Fatal("no sources", err)
	}
	var out []source
	for _, name := range names {
		text, err := os.ReadFile(name)
		if err != nil {
			t.Fatal(err)
		}
		fset := token.NewFileSet()
		file, err := parser.ParseFile(fset, name, text, parser.ParseComments)
		if err != nil {
			t.Fatal(err)
		}
		out = append(out, source{name, text, fset, file})
	}
	return out
}

func TestLayoutOfTheProgram(t *testing.T) {
	for _, s := range sources(t) {
		laid, err := format.Source(s.text)
		if err != nil || !bytes.Equal(laid, s.text) {
			t.Error(s.name, "is not as gofmt lays it out", err)
		}
		for _, d := range s.file.Decls {
			lines := s.fset.Position(d.End()).Line - s.fset.Position(d.Pos()).Line + 1
			if f, ok := d.(*ast.FuncDecl); ok && lines > longestFunction {
				t.Error(s.name, f.Name.Name, "has", lines, "lines")
			}
		}
	}
}

func TestImportsOfTheProgram(t *testing.T) {
	for _, s := range sources(t) {
		for _, i := range s.file.Imports {
			if path := strings.Trim(i.Path.Value, "\""); !slices.Contains(allowedImports, path) {
				t.Error(s.name, "imports", path)
			}
		}
		for _, group := range s.file.Comments {
			for _, c := range group.List {
				if strings.HasPrefix(c.Text, "//go:") || strings.HasPrefix(c.Text, "// +build") {
					t.Error(s.name, "has", c.Text)
				}
			}
		}
	}
}

func functionsOf(f *ast.File) map[string]*ast.FuncDecl {
	out := map[string]*ast.FuncDecl{}
	for _, d := range f.Decls {
		if x, ok := d.(*ast.FuncDecl); ok && x.Recv == nil {
			out[x.Name.Name] = x
		}
	}
	return out
}

// namesIn tells the names that stand in a function.
func namesIn(f *ast.FuncDecl) []string {
	var out []string
	ast.Inspect(f, func(n ast.Node) bool {
		if x, ok := n.(*ast.Ident); ok {
			out = append(out, x.Name)
		}
		return true
	})
	return out
}

func isVariadic(f *ast.FuncDecl) bool {
	if f == nil || len(f.Type.Params.List) == 0 {
		return false
	}
	_, ok := f.Type.Params.List[len(f.Type.Params.List)-1].Type.(*ast.Ellipsis)
	return ok
}

// arraysOf tells the names of the arrays that are written out at package level.
func arraysOf(f *ast.File) []string {
	var out []string
	for _, d := range f.Decls {
		group, ok := d.(*ast.GenDecl)
		if !ok || group.Tok != token.VAR {
			continue
		}
		for _, s := range group.Specs {
			v := s.(*ast.ValueSpec)
			for i, x := range v.Values {
				if lit, ok := x.(*ast.CompositeLit); ok {
					if a, ok := lit.Type.(*ast.ArrayType); ok && a.Len != nil {
						out = append(out, v.Names[i].Name)
					}
				}
			}
		}
	}
	return out
}

func TestWaysOfBytes(t *testing.T) {
	for _, s := range sources(t) {
		if filepath.Base(s.name) != "l01_bytes.go" {
			continue
		}
		functions := functionsOf(s.file)
		if !slices.ContainsFunc(namesIn(functions["PutNum"]), func(name string) bool { return isVariadic(functions[name]) }) {
			t.Error("numbers are not put by a variadic function")
		}
		if !slices.ContainsFunc(namesIn(functions["Sum"]), func(name string) bool { return slices.Contains(arraysOf(s.file), name) }) {
			t.Error("the table of the sum is no array")
		}
		return
	}
	t.Error("no layer 1")
}
