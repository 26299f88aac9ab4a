// Package rules tests what holds for all layers alike: how their files may be written, and which calls they have.
package rules

import (
	"bytes"
	"go/ast"
	"go/format"
	"go/parser"
	"go/token"
	"os"
	"path/filepath"
	"slices"
	"strconv"
	"strings"
	"testing"
)

const module = "longeron/"

// longestFunction is in lines.
const longestFunction = 60

// layers are the packages, from the lowest one on.
var layers = []string{
	"api", "num", "crc", "sha", "disk", "table", "image", "record", "pdu", "place", "bits", "stage", "commit", "compat",
	"store", "op", "port", "vm", "timer", "loader", "link", "ground", "sched", "part", "kernel", "run", "trace", "lines",
}

var library = []string{
	"bytes", "cmp", "container/heap", "errors", "iter", "maps", "math", "math/bits", "slices", "sort", "strconv", "strings",
	"sync", "sync/atomic", "unicode", "unicode/utf8",
}

// source is a Go file of a layer, no test.
type source struct {
	layer int
	path  string
	text  []byte
	fset  *token.FileSet
	file  *ast.File
}

func sources(t *testing.T) []source {
	t.Helper()
	var all []source
	for i, l := range layers {
		paths, _ := filepath.Glob(filepath.Join("..", l, "*"))
		if len(paths) == 0 {
			t.Fatalf("no package %s", l)
		}
		for _, p := range paths {
			if strings.HasSuffix(p, "_test.go") || filepath.Base(p) == "testdata" {
				continue
			}
			if !strings.HasSuffix(p, ".go") {
				t.Fatalf("%s: no Go file", p)
			}
			text, err := os.ReadFile(p)
			if err != nil {
				t.Fatal(err)
			}
			fset := token.NewFileSet()
			f, err := parser.ParseFile(fset, p, text, parser.ParseComments)
			if err != nil {
				t.Fatal(err)
			}
			all = append(all, source{i, p, text, fset, f})
		}
	}
	return all
}

func TestImports(t *testing.T) {
	for _, s := range sources(t) {
		for _, im := range s.file.Imports {
			path, _ := strconv.Unquote(im.Path.Value)
			if at := slices.Index(layers, strings.TrimPrefix(path, module)); strings.HasPrefix(path, module) && at >= 0 {
				if at >= s.layer {
					t.Errorf("%s: %s isn't below it", s.path, path)
				}
			} else if !slices.Contains(library, path) {
				t.Errorf("%s: %s may not be imported", s.path, path)
			}
		}
	}
}

func TestNoDirectives(t *testing.T) {
	for _, s := range sources(t) {
		for _, g := range s.file.Comments {
			for _, c := range g.List {
				if strings.HasPrefix(c.Text, "//go:") || strings.HasPrefix(c.Text, "// +build") {
					t.Errorf("%s: %s", s.fset.Position(c.Pos()), c.Text)
				}
			}
		}
	}
}

func TestLayout(t *testing.T) {
	for _, s := range sources(t) {
		if want, err := format.Source(s.text); err != nil || !bytes.Equal(want, s.text) {
			t.Errorf("%s: not in gofmt's layout", s.path)
		}
	}
}

func TestFunctionsAreShort(t *testing.T) {
	for _, s := range sources(t) {
		for _, d := range s.file.Decls {
			f, ok := d.(*ast.FuncDecl)
			if !ok {
				continue
			}
			if n := s.fset.Position(f.End()).Line - s.fset.Position(f.Pos()).Line + 1; n > longestFunction {
				t.Errorf("%s: %s has %d lines", s.path, f.Name.Name, n)
			}
		}
	}
}
