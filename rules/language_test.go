// Package rules tests what holds for the code of all packages: the calls that
// the document lists, who may call whom, and the rules of the language.
package rules

import (
	"go/ast"
	"go/format"
	"go/parser"
	"go/token"
	"os"
	"path/filepath"
	"slices"
	"strconv"
	"strings"
	"testing"
)

// library is what may be imported of the language's own packages.
const library = "bytes cmp container/heap errors iter maps math math/bits slices sort strconv strings sync sync/atomic unicode unicode/utf8"

// calls is the document's map: the packages that each layer may call.
func calls() map[string]string {
	return map[string]string{
		"api":         "",
		"fault":       "api",
		"value":       "api fault",
		"number":      "api fault value",
		"key":         "api value",
		"row":         "api value",
		"disk":        "api",
		"wal":         "api disk",
		"table":       "api",
		"lock":        "api",
		"shard":       "api disk row table wal",
		"letter":      "api row",
		"net":         "api letter",
		"coordinator": "api disk letter row wal",
		"participant": "api letter shard",
		"commit":      "api coordinator disk net participant shard table",
		"lex":         "api fault",
		"parse":       "api fault lex",
		"catalog":     "api fault key value",
		"check":       "api catalog fault value",
		"eval":        "api fault number value",
		"exec":        "api catalog check eval fault value",
		"split":       "api catalog check eval exec fault key number value",
		"engine":      "api catalog check coordinator disk eval exec fault key lock net parse participant row shard split value",
		"desk":        "api engine fault value",
	}
}

// source is a file of the program, not of a test.
type source struct {
	path string // below the project's folder
	text []byte
	file *ast.File
	fset *token.FileSet
}

func (s source) layer() string { return filepath.Dir(s.path) }

// sources reads all files of the program.
func sources(t *testing.T) []source {
	t.Helper()
	var l []source
	paths, err := filepath.Glob("../*/*.go")
	if err != nil {
		t.Fatal(err)
	}
	for _, path := range paths {
		below := strings.TrimPrefix(path, "../")
		if strings.HasSuffix(path, "_test.go") || strings.HasPrefix(below, "sharedtests") {
			continue
		}
		text, err := os.ReadFile(path)
		if err != nil {
			t.Fatal(err)
		}
		fset := token.NewFileSet()
		file, err := parser.ParseFile(fset, path, text, parser.ParseComments)
		if err != nil {
			t.Fatal(err)
		}
		l = append(l, source{below, text, file, fset})
	}
	if len(l) < len(calls()) {
		t.Fatalf("only %d files", len(l))
	}
	return l
}

// A layer imports the layers that the map lists, and of the library what the
// language has. Packages that the map does not list may be called by all.
func TestImports(t *testing.T) {
	layers := calls()
	for _, s := range sources(t) {
		for _, i := range s.file.Imports {
			path, _ := strconv.Unquote(i.Path.Value)
			own, inside := strings.CutPrefix(path, "frankpledge/")
			if !inside && !slices.Contains(strings.Fields(library), path) {
				t.Errorf("%s imports %s", s.path, path)
			}
			_, listed := layers[s.layer()]
			_, layer := layers[own]
			if inside && listed && layer && !slices.Contains(strings.Fields(layers[s.layer()]), own) {
				t.Errorf("%s calls %s", s.path, own)
			}
		}
	}
}

// Files are in gofmt's layout, and have no lines for the compiler.
func TestLayout(t *testing.T) {
	for _, s := range sources(t) {
		want, err := format.Source(s.text)
		if err != nil || string(want) != string(s.text) {
			t.Errorf("%s isn't in gofmt's layout", s.path)
		}
		for _, group := range s.file.Comments {
			for _, c := range group.List {
				if strings.HasPrefix(c.Text, "//go:") || strings.HasPrefix(c.Text, "// +build") {
					t.Errorf("%s has a line %s", s.path, c.Text)
				}
			}
		}
	}
}

// Functions have at most 60 lines.
func TestFunctionLength(t *testing.T) {
	for _, s := range sources(t) {
		for _, d := range s.file.Decls {
			f, ok := d.(*ast.FuncDecl)
			if !ok {
				continue
			}
			lines := s.fset.Position(f.End()).Line - s.fset.Position(f.Pos()).Line + 1
			if lines > 60 {
				t.Errorf("%s: %s has %d lines", s.path, f.Name.Name, lines)
			}
		}
	}
}

// A folder of the project has Go files alone beside those of its root.
func TestOnlyGoFiles(t *testing.T) {
	for layer := range calls() {
		files, err := os.ReadDir("../" + layer)
		if err != nil {
			t.Fatal(err)
		}
		for _, f := range files {
			if !strings.HasSuffix(f.Name(), ".go") {
				t.Errorf("%s has %s", layer, f.Name())
			}
		}
	}
}
