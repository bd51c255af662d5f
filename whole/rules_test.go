package whole

import (
	"bytes"
	"crypto/sha256"
	"fmt"
	"go/ast"
	"go/format"
	"go/parser"
	"go/token"
	"os"
	"path/filepath"
	"slices"
	"strings"
	"testing"
)

// Here the program's own files are held against the rules of its language, as far as a look at the text can tell.

// library: the packages that may be imported beside the project's own.
var library = strings.Fields("bytes cmp container/heap errors iter maps math math/bits slices sort strconv strings sync sync/atomic unicode unicode/utf8")

// given: a package that is given, with its calls.
type given struct {
	name  string
	calls []string
}

// layers: all of these but api, in the order of their chapters.
var layers = []given{
	{"page", []string{"Check(p api.Page) api.Errno", "Set(p api.Page, cell, val, rec int) (api.Page, api.Errno)", "Same(a, b api.Page) bool"}},
	{"rec", []string{"Check(n int, r api.Rec) api.Errno", "Turns(r api.Rec) bool"}},
	{"log", []string{"Check(l []api.Rec) api.Errno", "Pages(l []api.Rec) ([api.Pages]api.Page, api.Errno)", "State(l []api.Rec, txn int) (int, int, api.Errno)"}},
	{"model", []string{"Cells(l []api.Rec) ([api.Pages][api.Cells]int, api.Errno)", "Wins(l []api.Rec) ([]int, api.Errno)"}},
	{"world", []string{"Begin() api.World", "Check(w api.World) api.Errno", "Now(w api.World) ([api.Pages]api.Page, api.Errno)"}},
	{"work", []string{"Write(w api.World, txn, page, cell, val int) (api.World, api.Errno)", "Commit(w api.World, txn int) (api.World, api.Errno)"}},
	{"roll", []string{"Abort(w api.World, txn int) (api.World, api.Errno)", "Step(l []api.Rec, txn int) (api.Rec, api.Errno)"}},
	{"flush", []string{"Sync(w api.World, n int) (api.World, api.Errno)", "Page(w api.World, page int) (api.World, api.Errno)"}},
	{"scan", []string{"Crash(w api.World) (api.World, api.Errno)", "Losers(l []api.Rec) ([]int, api.Errno)", "Redo(w api.World) ([api.Pages]api.Page, int, api.Errno)"}},
	{"mend", []string{"All(w api.World) (api.World, int, api.Errno)", "Half(w api.World, steps int, pages []bool) (api.World, api.Errno)"}},
	{"act", []string{"Do(w api.World, x api.Act) (api.World, api.Errno)", "All(l []api.Act) (api.World, int, api.Errno)"}},
	{"wire", []string{"Write(w api.World) (string, api.Errno)", "Read(b string) (api.World, api.Errno)"}},
	{"desk", []string{"Play(t string) (string, api.Errno)"}},
}

// layer: which of these the package is; below 0: none.
func layer(name string) int {
	return slices.IndexFunc(layers, func(x given) bool { return x.name == name })
}

// file: one of the program's files (no test), with the package that it lies in.
type file struct {
	pack, path string
	text       []byte
	set        *token.FileSet
	tree       *ast.File
}

// program: all files of the program; what lies beside them in a package's folder is a fault.
func program(t *testing.T) []file {
	t.Helper()
	paths, err := filepath.Glob("../*/*")
	if err != nil {
		t.Fatal(err)
	}
	var l []file
	for _, path := range paths {
		pack := filepath.Base(filepath.Dir(path))
		if pack == "sharedtests" || strings.HasPrefix(pack, ".") || strings.HasSuffix(path, "_test.go") {
			continue
		}
		if filepath.Ext(path) != ".go" {
			t.Errorf("%s is no Go file", path)
			continue
		}
		l = append(l, parsed(t, pack, path))
	}
	if len(l) < 20 {
		t.Fatalf("only %d files are found", len(l))
	}
	return l
}

func parsed(t *testing.T, pack, path string) file {
	t.Helper()
	text, err := os.ReadFile(path)
	if err != nil {
		t.Fatal(err)
	}
	set := token.NewFileSet()
	tree, err := parser.ParseFile(set, path, text, parser.ParseComments)
	if err != nil {
		t.Fatal(err)
	}
	return file{pack, path, text, set, tree}
}

func TestRulesImports(t *testing.T) {
	for _, f := range program(t) {
		for _, spec := range f.tree.Imports {
			path := strings.Trim(spec.Path.Value, `"`)
			own, ok := strings.CutPrefix(path, "croft/")
			if !ok && !slices.Contains(library, path) {
				t.Errorf("%s imports %s", f.path, path)
			}
			if at := layer(f.pack); ok && at >= 0 && layer(own) >= at {
				t.Errorf("%s imports %s, which is not ahead of it", f.path, path)
			}
		}
	}
}

func TestRulesLayoutAndRemarks(t *testing.T) {
	for _, f := range program(t) {
		if laid, err := format.Source(f.text); err != nil || !bytes.Equal(laid, f.text) {
			t.Errorf("%s has not gofmt's layout: %v", f.path, err)
		}
		for _, group := range f.tree.Comments {
			for _, c := range group.List {
				if strings.HasPrefix(c.Text, "//go:") || strings.HasPrefix(c.Text, "// +build") {
					t.Errorf("%s has the line %s", f.path, c.Text)
				}
			}
		}
	}
}

func TestRulesFunctions(t *testing.T) {
	for _, f := range program(t) {
		for _, d := range f.tree.Decls {
			fun, ok := d.(*ast.FuncDecl)
			if !ok {
				continue
			}
			if lines := f.set.Position(fun.End()).Line - f.set.Position(fun.Pos()).Line + 1; lines > 60 {
				t.Errorf("%s: %s has %d lines", f.path, fun.Name.Name, lines)
			}
			if fun.Name.Name == "init" {
				t.Errorf("%s has an init", f.path)
			}
		}
	}
}

// TestRulesVariables: at package level there are errors of one text alone; of tables the program has none.
func TestRulesVariables(t *testing.T) {
	for _, f := range program(t) {
		for _, d := range f.tree.Decls {
			gen, ok := d.(*ast.GenDecl)
			if !ok || gen.Tok != token.VAR {
				continue
			}
			for _, spec := range gen.Specs {
				for _, v := range spec.(*ast.ValueSpec).Values {
					if text := string(f.text[f.set.Position(v.Pos()).Offset:f.set.Position(v.End()).Offset]); !strings.HasPrefix(text, `errors.New("`) {
						t.Errorf("%s: a variable is %s", f.path, text)
					}
				}
				if len(spec.(*ast.ValueSpec).Values) == 0 {
					t.Errorf("%s: a variable has no value of its own", f.path)
				}
			}
		}
	}
}

func TestRulesWhatIsGivenStays(t *testing.T) {
	text, err := os.ReadFile("../api/api.go")
	if got := fmt.Sprintf("%x", sha256.Sum256(text)); err != nil || got != "0730f7edab4d23db877b7a3f4ca70debebcb60f8cc2bc6ce2dc018163cfbd79e" {
		t.Errorf("package api is not as it was given: %s %v", got, err)
	}
	calls := map[string][]string{}
	for _, f := range program(t) {
		for _, d := range f.tree.Decls {
			calls[f.pack] = append(calls[f.pack], exported(f, d)...)
		}
	}
	for _, x := range layers {
		slices.Sort(calls[x.name])
		slices.Sort(x.calls)
		if !slices.Equal(calls[x.name], x.calls) {
			t.Errorf("package %s has the calls %q, and must have %q", x.name, calls[x.name], x.calls)
		}
	}
}

// exported: what others may see of it; of a function its head.
func exported(f file, d ast.Decl) []string {
	if fun, ok := d.(*ast.FuncDecl); ok {
		if !fun.Name.IsExported() {
			return nil
		}
		return []string{string(f.text[f.set.Position(fun.Name.Pos()).Offset:f.set.Position(fun.Type.End()).Offset])}
	}
	var names []string
	for _, spec := range d.(*ast.GenDecl).Specs {
		switch x := spec.(type) {
		case *ast.TypeSpec:
			names = append(names, x.Name.Name)
		case *ast.ValueSpec:
			for _, n := range x.Names {
				names = append(names, n.Name)
			}
		}
	}
	return slices.DeleteFunc(names, func(n string) bool { return !ast.IsExported(n) })
}
