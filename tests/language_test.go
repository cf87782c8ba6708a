package tests

import (
	"bytes"
	"go/ast"
	"go/format"
	"go/parser"
	"go/token"
	"go/types"
	"os"
	"path/filepath"
	"slices"
	"strings"
	"testing"
)

const longestFunction = 60

var allowedImports = strings.Fields("bytes cmp container/heap errors iter maps math math/bits slices sort strconv strings sync sync/atomic unicode unicode/utf8")

type source struct {
	name string
	text []byte
	fset *token.FileSet
	file *ast.File
}

func sources(t *testing.T) []source {
	names, err := filepath.Glob("../impl/*")
	if err != nil || len(names) == 0 {
		t.Fatal("no sources", err)
	}
	var out []source
	for _, name := range names {
		text, err := os.ReadFile(name)
		if err != nil {
			t.Fatal(err)
		}
		fset := token.NewFileSet()
		file, err := parser.ParseFile(fset, name, text, parser.ParseComments)
		if err != nil {
			t.Fatal(err)
		}
		out = append(out, source{name, text, fset, file})
	}
	return out
}

func TestLayoutOfTheProgram(t *testing.T) {
	for _, s := range sources(t) {
		laid, err := format.Source(s.text)
		if err != nil || !bytes.Equal(laid, s.text) {
			t.Error(s.name, "is not as gofmt lays it out", err)
		}
		for _, d := range s.file.Decls {
			lines := s.fset.Position(d.End()).Line - s.fset.Position(d.Pos()).Line + 1
			if f, ok := d.(*ast.FuncDecl); ok && lines > longestFunction {
				t.Error(s.name, f.Name.Name, "has", lines, "lines")
			}
		}
	}
}

func TestImportsOfTheProgram(t *testing.T) {
	for _, s := range sources(t) {
		for _, i := range s.file.Imports {
			if path := strings.Trim(i.Path.Value, "\""); !slices.Contains(allowedImports, path) {
				t.Error(s.name, "imports", path)
			}
		}
		for _, group := range s.file.Comments {
			for _, c := range group.List {
				if strings.HasPrefix(c.Text, "//go:") || strings.HasPrefix(c.Text, "// +build") {
					t.Error(s.name, "has", c.Text)
				}
			}
		}
	}
}

func functionsOf(f *ast.File) map[string]*ast.FuncDecl {
	out := map[string]*ast.FuncDecl{}
	for _, d := range f.Decls {
		if x, ok := d.(*ast.FuncDecl); ok && x.Recv == nil {
			out[x.Name.Name] = x
		}
	}
	return out
}

// namesIn tells the names that stand in a function.
func namesIn(f *ast.FuncDecl) []string {
	var out []string
	ast.Inspect(f, func(n ast.Node) bool {
		if x, ok := n.(*ast.Ident); ok {
			out = append(out, x.Name)
		}
		return true
	})
	return out
}

func isVariadic(f *ast.FuncDecl) bool {
	if f == nil || len(f.Type.Params.List) == 0 {
		return false
	}
	_, ok := f.Type.Params.List[len(f.Type.Params.List)-1].Type.(*ast.Ellipsis)
	return ok
}

// arraysOf tells the names of the arrays that are written out at package level.
func arraysOf(f *ast.File) []string {
	var out []string
	for _, d := range f.Decls {
		group, ok := d.(*ast.GenDecl)
		if !ok || group.Tok != token.VAR {
			continue
		}
		for _, s := range group.Specs {
			v := s.(*ast.ValueSpec)
			for i, x := range v.Values {
				if lit, ok := x.(*ast.CompositeLit); ok {
					if a, ok := lit.Type.(*ast.ArrayType); ok && a.Len != nil {
						out = append(out, v.Names[i].Name)
					}
				}
			}
		}
	}
	return out
}

func layer(t *testing.T, name string) source {
	for _, s := range sources(t) {
		if filepath.Base(s.name) == name {
			return s
		}
	}
	t.Fatal("no layer", name)
	return source{}
}

// reached tells the functions of a layer that the one of this name reaches, and itself.
func reached(functions map[string]*ast.FuncDecl, name string) []*ast.FuncDecl {
	met := map[string]bool{name: true}
	work := []string{name}
	var out []*ast.FuncDecl
	for len(work) > 0 {
		f := functions[work[0]]
		work = work[1:]
		if f == nil {
			continue
		}
		out = append(out, f)
		for _, n := range namesIn(f) {
			if functions[n] != nil && !met[n] {
				met[n] = true
				work = append(work, n)
			}
		}
	}
	return out
}

// anyIn tells whether something in these functions is as asked.
func anyIn(functions []*ast.FuncDecl, asked func(ast.Node) bool) bool {
	found := false
	for _, f := range functions {
		ast.Inspect(f, func(n ast.Node) bool {
			found = found || n != nil && asked(n)
			return !found
		})
	}
	return found
}

func callOf(name string) func(ast.Node) bool {
	return func(n ast.Node) bool {
		c, ok := n.(*ast.CallExpr)
		return ok && types.ExprString(c.Fun) == name
	}
}

func TestWaysOfBytes(t *testing.T) {
	s := layer(t, "l01_bytes.go")
	functions := functionsOf(s.file)
	if !slices.ContainsFunc(namesIn(functions["PutNum"]), func(name string) bool { return isVariadic(functions[name]) }) {
		t.Error("numbers are not put by a variadic function")
	}
	if !slices.ContainsFunc(namesIn(functions["Sum"]), func(name string) bool { return slices.Contains(arraysOf(s.file), name) }) {
		t.Error("the table of the sum is no array")
	}
}

func TestWaysOfFiles(t *testing.T) {
	functions := functionsOf(layer(t, "l02_files.go").file)
	isNameMap := func(n ast.Node) bool {
		m, ok := n.(*ast.MapType)
		return ok && types.ExprString(m.Key) == "string"
	}
	for _, name := range []string{"Create", "Append", "Rename", "Remove", "Bytes"} {
		if !anyIn(reached(functions, name), isNameMap) {
			t.Error(name, "has no map of names")
		}
		if !anyIn(reached(functions, name), callOf("copy")) {
			t.Error(name, "copies no bytes by copy")
		}
	}
	for _, name := range []string{"Rename", "Remove"} {
		if !anyIn(reached(functions, name), callOf("delete")) {
			t.Error(name, "deletes no name from a map")
		}
	}
}

// isIterator tells whether a function answers what can be ranged over.
func isIterator(f *ast.FuncDecl) bool {
	return f != nil && f.Type.Results != nil && len(f.Type.Results.List) == 1 &&
		strings.HasPrefix(types.ExprString(f.Type.Results.List[0].Type), "iter.Seq")
}

func TestWaysOfLogs(t *testing.T) {
	functions := functionsOf(layer(t, "l03_log.go").file)
	leaves := func(n ast.Node) bool {
		b, ok := n.(*ast.BranchStmt)
		_, returns := n.(*ast.ReturnStmt)
		return returns || ok && b.Tok == token.BREAK
	}
	isLeftLoop := func(n ast.Node) bool {
		loop, ok := n.(*ast.RangeStmt)
		if !ok {
			return false
		}
		call, ok := loop.X.(*ast.CallExpr)
		if !ok || !isIterator(functions[types.ExprString(call.Fun)]) {
			return false
		}
		left := false
		ast.Inspect(loop.Body, func(n ast.Node) bool {
			left = left || n != nil && leaves(n)
			return !left
		})
		return left
	}
	for _, name := range []string{"Records", "Mend"} {
		if !anyIn(reached(functions, name), isLeftLoop) {
			t.Error(name, "takes no bodies out of an iterator that is left")
		}
	}
}

// genericTypes tells the names of the types with a parameter that reach their like by pointers.
func genericTypes(f *ast.File) []string {
	var out []string
	ast.Inspect(f, func(n ast.Node) bool {
		spec, ok := n.(*ast.TypeSpec)
		if !ok || spec.TypeParams == nil {
			return true
		}
		ast.Inspect(spec.Type, func(n ast.Node) bool {
			if star, ok := n.(*ast.StarExpr); ok && strings.HasPrefix(types.ExprString(star.X), spec.Name.Name+"[") {
				out = append(out, spec.Name.Name)
			}
			return true
		})
		return true
	})
	return out
}

// rangesOverText tells whether a function goes through a text that is handed in to it, rune by rune.
func rangesOverText(f *ast.FuncDecl) bool {
	texts := map[string]bool{}
	for _, p := range f.Type.Params.List {
		for _, name := range p.Names {
			texts[name.Name] = types.ExprString(p.Type) == "string"
		}
	}
	return anyIn([]*ast.FuncDecl{f}, func(n ast.Node) bool {
		loop, ok := n.(*ast.RangeStmt)
		return ok && loop.Value != nil && texts[types.ExprString(loop.X)]
	})
}

func TestWaysOfMem(t *testing.T) {
	file := layer(t, "l04_mem.go").file
	functions := functionsOf(file)
	towers := genericTypes(file)
	isTower := func(n ast.Node) bool {
		x, ok := n.(*ast.Ident)
		return ok && slices.Contains(towers, x.Name)
	}
	for _, name := range []string{"MemPut", "Leaps"} {
		if !anyIn(reached(functions, name), isTower) {
			t.Error(name, "has no towers of a generic type, reached by pointers")
		}
	}
	for _, name := range []string{"MemOk", "MemPut", "Leaps", "Merge", "Range"} {
		if !slices.ContainsFunc(reached(functions, name), rangesOverText) {
			t.Error(name, "reads no key rune by rune")
		}
	}
}

// wraps tells whether a type of the program is an error that can be unwrapped.
func wraps(f *ast.File, name string) bool {
	met := map[string]bool{}
	for _, d := range f.Decls {
		if m, ok := d.(*ast.FuncDecl); ok && m.Recv != nil && strings.TrimPrefix(types.ExprString(m.Recv.List[0].Type), "*") == name {
			met[m.Name.Name] = true
		}
	}
	return met["Error"] && met["Unwrap"]
}

func TestWaysOfTables(t *testing.T) {
	file := layer(t, "l05_table.go").file
	functions := functionsOf(file)
	isThreeIndexed := func(n ast.Node) bool {
		s, ok := n.(*ast.SliceExpr)
		return ok && s.Slice3
	}
	isWrapped := func(n ast.Node) bool {
		x, ok := n.(*ast.CompositeLit)
		return ok && x.Type != nil && wraps(file, types.ExprString(x.Type))
	}
	for _, name := range []string{"PutTable", "TableGet", "TablePairs"} {
		if !anyIn(reached(functions, name), isThreeIndexed) {
			t.Error(name, "cuts no block by three indexes")
		}
	}
	for _, name := range []string{"TableGet", "TablePairs"} {
		if !anyIn(reached(functions, name), callOf("errors.Is")) {
			t.Error(name, "asks for no error by errors.Is")
		}
		if !anyIn(reached(functions, name), isWrapped) {
			t.Error(name, "wraps no error")
		}
	}
}

// withMethods tells the functions of a layer, and its methods, by their names.
func withMethods(f *ast.File) map[string]*ast.FuncDecl {
	out := map[string]*ast.FuncDecl{}
	for _, d := range f.Decls {
		if x, ok := d.(*ast.FuncDecl); ok {
			out[x.Name.Name] = x
		}
	}
	return out
}

// countedConstants tells the names of the constants that are counted by iota.
func countedConstants(f *ast.File) []string {
	var out []string
	for _, d := range f.Decls {
		group, ok := d.(*ast.GenDecl)
		if !ok || group.Tok != token.CONST || !strings.Contains(types.ExprString(firstValue(group)), "iota") {
			continue
		}
		for _, s := range group.Specs {
			for _, name := range s.(*ast.ValueSpec).Names {
				out = append(out, name.Name)
			}
		}
	}
	return out
}

func firstValue(group *ast.GenDecl) ast.Expr {
	if v := group.Specs[0].(*ast.ValueSpec).Values; len(v) > 0 {
		return v[0]
	}
	return ast.NewIdent("none")
}

func TestWaysOfManifests(t *testing.T) {
	file := layer(t, "l06_manifest.go").file
	functions := withMethods(file)
	isTwoValued := func(n ast.Node) bool {
		a, ok := n.(*ast.AssignStmt)
		if !ok || len(a.Lhs) != 2 || len(a.Rhs) != 1 {
			return false
		}
		x, ok := a.Rhs[0].(*ast.TypeAssertExpr)
		return ok && x.Type != nil
	}
	levels := countedConstants(file)
	isLevel := func(n ast.Node) bool {
		x, ok := n.(*ast.Ident)
		return ok && slices.Contains(levels, x.Name)
	}
	for _, name := range []string{"ParseMan", "Current"} {
		if !anyIn(reached(functions, name), isTwoValued) {
			t.Error(name, "tells no word by an assertion with two values")
		}
	}
	if !anyIn(reached(functions, "ManOk"), isLevel) {
		t.Error("levels are no constants with iota")
	}
}

// catches tells what is a deferred function literal that recovers.
func catches(n ast.Node) bool {
	d, ok := n.(*ast.DeferStmt)
	if !ok {
		return false
	}
	_, literal := d.Call.Fun.(*ast.FuncLit)
	found := false
	ast.Inspect(d.Call, func(n ast.Node) bool {
		found = found || n != nil && callOf("recover")(n)
		return !found
	})
	return literal && found
}

func TestWaysOfStores(t *testing.T) {
	functions := withMethods(layer(t, "l07_store.go").file)
	for _, name := range []string{"Write", "Make", "Flush", "Press", "Settle", "Open"} {
		if !anyIn(reached(functions, name), callOf("panic")) {
			t.Error(name, "gives up by no panic")
		}
		if !anyIn(reached(functions, name), catches) {
			t.Error(name, "has no deferred recover at its face")
		}
	}
}

// loopsByGoto tells whether a function goes back to a label of its own.
func loopsByGoto(f *ast.FuncDecl) bool {
	labels := map[string]token.Pos{}
	return anyIn([]*ast.FuncDecl{f}, func(n ast.Node) bool {
		if l, ok := n.(*ast.LabeledStmt); ok {
			labels[l.Label.Name] = l.Pos()
		}
		b, ok := n.(*ast.BranchStmt)
		return ok && b.Tok == token.GOTO && labels[b.Label.Name].IsValid()
	})
}

// clearsForEach tells what is a loop in which something is cleared.
func clearsForEach(n ast.Node) bool {
	_, counted := n.(*ast.ForStmt)
	_, ranged := n.(*ast.RangeStmt)
	if !counted && !ranged {
		return false
	}
	found := false
	ast.Inspect(n, func(n ast.Node) bool {
		found = found || n != nil && callOf("clear")(n)
		return !found
	})
	return found
}

func TestWaysOfGraphs(t *testing.T) {
	functions := functionsOf(layer(t, "l08_graph.go").file)
	for _, name := range []string{"Whole", "Group", "OrderOf"} {
		if !slices.ContainsFunc(reached(functions, name), loopsByGoto) {
			t.Error(name, "has no loop by goto")
		}
		if !anyIn(reached(functions, name), clearsForEach) {
			t.Error(name, "clears nothing for each")
		}
	}
}

// withMethodsOf tells the names of the types of a layer that have methods.
func withMethodsOf(f *ast.File) []string {
	var out []string
	for _, d := range f.Decls {
		if m, ok := d.(*ast.FuncDecl); ok && m.Recv != nil {
			out = append(out, types.ExprString(m.Recv.List[0].Type))
		}
	}
	return out
}

// tellsKinds tells what is a type switch with a case for each of several types.
func tellsKinds(named []string) func(ast.Node) bool {
	return func(n ast.Node) bool {
		s, ok := n.(*ast.TypeSwitchStmt)
		if !ok {
			return false
		}
		kinds := 0
		for _, c := range s.Body.List {
			for _, x := range c.(*ast.CaseClause).List {
				if slices.Contains(named, types.ExprString(x)) {
					kinds++
				}
			}
		}
		return kinds >= 3
	}
}

func TestWaysOfReplicas(t *testing.T) {
	file := layer(t, "l09_replica.go").file
	functions := functionsOf(file)
	fallsThrough := func(n ast.Node) bool {
		b, ok := n.(*ast.BranchStmt)
		return ok && b.Tok == token.FALLTHROUGH
	}
	for _, name := range []string{"Submit", "Hear"} {
		if !anyIn(reached(functions, name), tellsKinds(withMethodsOf(file))) {
			t.Error(name, "tells no words by a type switch with a type for each kind")
		}
		if !anyIn(reached(functions, name), fallsThrough) {
			t.Error(name, "falls through to nothing that all do")
		}
	}
	for name, f := range functions {
		if ast.IsExported(name) && anyIn([]*ast.FuncDecl{f}, func(n ast.Node) bool {
			_, ok := n.(*ast.TypeSwitchStmt)
			return ok
		}) {
			t.Error(name, "tells kinds at the face")
		}
	}
}

// asksPairs tells whether a function is generic, and has a function value of two handed to it.
func asksPairs(f *ast.FuncDecl) bool {
	return f.Type.TypeParams != nil && anyIn([]*ast.FuncDecl{f}, func(n ast.Node) bool {
		p, ok := n.(*ast.FuncType)
		return ok && p != f.Type && p.Params.NumFields() == 2
	})
}

func TestWaysOfSafe(t *testing.T) {
	functions := functionsOf(layer(t, "l11_safe.go").file)
	isDotOf := func(x ast.Expr) bool {
		s, ok := x.(*ast.SelectorExpr)
		return ok && s.Sel.Name == "D"
	}
	comparesDots := func(n ast.Node) bool {
		b, ok := n.(*ast.BinaryExpr)
		return ok && (b.Op == token.EQL || b.Op == token.NEQ) && isDotOf(b.X) && isDotOf(b.Y)
	}
	for _, name := range []string{"Ordered", "Agreed", "Timely"} {
		if !slices.ContainsFunc(reached(functions, name), asksPairs) {
			t.Error(name, "hands no function value to a generic function")
		}
	}
	for _, name := range []string{"Ordered", "Timely"} {
		if !anyIn(reached(functions, name), comparesDots) {
			t.Error(name, "compares no dots as structs")
		}
	}
}

// goesOnByLabel tells what is a closure in which a loop goes on by its label.
func goesOnByLabel(n ast.Node) bool {
	closure, ok := n.(*ast.FuncLit)
	if !ok {
		return false
	}
	found := false
	ast.Inspect(closure.Body, func(n ast.Node) bool {
		b, ok := n.(*ast.BranchStmt)
		found = found || ok && b.Tok == token.CONTINUE && b.Label != nil
		return !found
	})
	return found
}

func TestWaysOfQuietTimes(t *testing.T) {
	functions := functionsOf(layer(t, "l12_quiet.go").file)
	for _, name := range []string{"Round", "Settled"} {
		if !anyIn(reached(functions, name), goesOnByLabel) {
			t.Error(name, "has no closure in which a loop goes on by its label")
		}
	}
}

// embeddedIn tells the names of the types that are embedded in a struct of a layer, and who embeds them.
func embeddedIn(f *ast.File) map[string]string {
	out := map[string]string{}
	ast.Inspect(f, func(n ast.Node) bool {
		spec, ok := n.(*ast.TypeSpec)
		if !ok {
			return true
		}
		if x, ok := spec.Type.(*ast.StructType); ok {
			for _, field := range x.Fields.List {
				if len(field.Names) == 0 {
					out[strings.TrimPrefix(types.ExprString(field.Type), "*")] = spec.Name.Name
				}
			}
		}
		return true
	})
	return out
}

// fieldsAndMethods tells the names of what the types of a layer have, each with its type.
func fieldsAndMethods(f *ast.File) map[string]string {
	out := map[string]string{}
	ast.Inspect(f, func(n ast.Node) bool {
		switch x := n.(type) {
		case *ast.FuncDecl:
			if x.Recv != nil {
				out[x.Name.Name] = strings.TrimPrefix(types.ExprString(x.Recv.List[0].Type), "*")
			}
		case *ast.TypeSpec:
			fields, ok := x.Type.(*ast.StructType)
			for i := 0; ok && i < len(fields.Fields.List); i++ {
				for _, name := range fields.Fields.List[i].Names {
					out[name.Name] = x.Name.Name
				}
			}
		}
		return true
	})
	return out
}

// takesPromoted tells whether a method uses, of its own receiver, what an embedded part has.
func takesPromoted(f *ast.FuncDecl, embedded map[string]string, has map[string]string) bool {
	if f.Recv == nil || len(f.Recv.List[0].Names) == 0 {
		return false
	}
	receiver := f.Recv.List[0]
	return anyIn([]*ast.FuncDecl{f}, func(n ast.Node) bool {
		x, ok := n.(*ast.SelectorExpr)
		return ok && types.ExprString(x.X) == receiver.Names[0].Name &&
			embedded[has[x.Sel.Name]] == strings.TrimPrefix(types.ExprString(receiver.Type), "*")
	})
}

func TestWaysOfTheBench(t *testing.T) {
	file := layer(t, "l13_bench.go").file
	functions := withMethods(file)
	embedded, has := embeddedIn(file), fieldsAndMethods(file)
	if len(embedded) == 0 {
		t.Error("nothing is embedded")
	}
	methodValues := func(n ast.Node) int {
		count := 0
		if list, ok := n.(*ast.CompositeLit); ok {
			for _, x := range list.Elts {
				if s, ok := x.(*ast.SelectorExpr); ok && functions[s.Sel.Name] != nil && functions[s.Sel.Name].Recv != nil {
					count++
				}
			}
		}
		return count
	}
	for _, name := range []string{"Bench", "Built"} {
		values, promoted := 0, 0
		for _, f := range reached(functions, name) {
			anyIn([]*ast.FuncDecl{f}, func(n ast.Node) bool {
				values += methodValues(n)
				return false
			})
			if takesPromoted(f, embedded, has) {
				promoted++
			}
		}
		if values < 20 {
			t.Error(name, "has only", values, "commands that are method values")
		}
		if promoted < 10 {
			t.Error(name, "takes only in", promoted, "methods what is embedded")
		}
	}
}
