package tests

import (
	"bytes"
	"go/ast"
	"go/format"
	"go/parser"
	"go/token"
	"os"
	"path/filepath"
	"slices"
	"strings"
	"testing"
)

const longestFunction = 60

var allowedImports = []string{"bytes", "cmp", "container/heap", "errors", "iter", "maps", "math", "math/bits", "slices", "sort", "strconv", "strings", "sync", "sync/atomic", "unicode", "unicode/utf8"}

func TestProgramKeepsToTheLanguage(t *testing.T) {
	paths, err := filepath.Glob("../impl/*.go")
	if err != nil || len(paths) == 0 {
		t.Fatalf("no files of the program: %v", err)
	}
	for _, path := range paths {
		source, err := os.ReadFile(path)
		if err != nil {
			t.Fatal(err)
		}
		checkLayout(t, path, source)
		checkFile(t, path, source)
	}
}

func checkLayout(t *testing.T, path string, source []byte) {
	laid, err := format.Source(source)
	if err != nil || !bytes.Equal(laid, source) {
		t.Errorf("%s does not have the layout of gofmt (%v)", path, err)
	}
}

func checkFile(t *testing.T, path string, source []byte) {
	files := token.NewFileSet()
	file, err := parser.ParseFile(files, path, source, parser.ParseComments)
	if err != nil {
		t.Fatal(err)
	}
	for _, i := range file.Imports {
		if !slices.Contains(allowedImports, strings.Trim(i.Path.Value, `"`)) {
			t.Errorf("%s imports %s", path, i.Path.Value)
		}
	}
	for _, group := range file.Comments {
		for _, c := range group.List {
			if strings.HasPrefix(c.Text, "//go:") || strings.HasPrefix(c.Text, "// +build") {
				t.Errorf("%s has the directive %s", path, c.Text)
			}
		}
	}
	for _, d := range file.Decls {
		f, ok := d.(*ast.FuncDecl)
		if !ok {
			continue
		}
		lines := files.Position(f.End()).Line - files.Position(f.Pos()).Line + 1
		if lines > longestFunction {
			t.Errorf("%s: %s has %d lines", path, f.Name.Name, lines)
		}
	}
}
