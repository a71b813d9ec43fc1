// Package checks holds the program's text against the rules that no compiler knows: what a package may import, and the code's form.
package checks

import (
	"bytes"
	"go/ast"
	"go/format"
	"go/parser"
	"go/token"
	"os"
	"path/filepath"
	"slices"
	"strconv"
	"strings"
	"testing"
)

const (
	root      = ".."
	longest   = 60 // lines of a function
	libraries = "bytes cmp container/heap errors iter maps math math/bits slices sort strconv strings sync sync/atomic unicode unicode/utf8"
)

// layers: which of the others each layer may call, from the lowest on.
var layers = []struct{ name, calls string }{
	{"api", ""},
	{"floats", "api"},
	{"pack", "api"},
	{"crc", "api"},
	{"names", "api"},
	{"value", "api floats pack"},
	{"disk", "api"},
	{"frame", "api crc"},
	{"segment", "api pack frame"},
	{"wal", "api disk frame segment"},
	{"batch", "api pack"},
	{"rows", "api pack batch"},
	{"store", "api disk wal batch rows"},
	{"policy", "api floats pack"},
	{"event", "api pack names value policy"},
	{"branch", "api event"},
	{"state", "api value policy event"},
	{"fold", "api event branch state"},
	{"due", "api policy state"},
	{"table", "api pack names value policy"},
	{"rowcode", "api pack names value policy state table"},
	{"command", "api names value state"},
	{"client", "api fold due table"},
	{"reset", "api branch fold due table"},
	{"worker", "api policy state fold due command client"},
	{"fire", "api due client"},
	{"decide", "api value state client reset worker fire"},
	{"model", "api names branch rowcode decide"},
	{"limits", "api names value policy command"},
	{"reqcode", "api pack value event rowcode"},
	{"waits", "api"},
	{"machine", "api names branch rowcode decide limits"},
	{"linear", "api reqcode limits model"},
	{"door", "api names branch rowcode waits machine store"},
	{"script", "api pack"},
	{"world", "api disk store reqcode door"},
	{"audit", "api names rows branch fold rowcode"},
}

type source struct {
	path string
	text []byte
	fset *token.FileSet
	file *ast.File
}

// sources gives the parsed files of a folder, without its tests.
func sources(t *testing.T, folder string) []source {
	t.Helper()
	entries, err := os.ReadDir(filepath.Join(root, folder))
	if err != nil {
		t.Fatal(err)
	}
	var out []source
	for _, e := range entries {
		if !strings.HasSuffix(e.Name(), ".go") {
			t.Errorf("%s/%s is no Go file", folder, e.Name())
			continue
		}
		if strings.HasSuffix(e.Name(), "_test.go") {
			continue
		}
		s := source{path: filepath.Join(root, folder, e.Name()), fset: token.NewFileSet()}
		if s.text, err = os.ReadFile(s.path); err != nil {
			t.Fatal(err)
		}
		if s.file, err = parser.ParseFile(s.fset, s.path, s.text, parser.ParseComments); err != nil {
			t.Fatal(err)
		}
		out = append(out, s)
	}
	if len(out) == 0 {
		t.Errorf("%s has no source", folder)
	}
	return out
}

// folders gives the layers, and the packages that the program has beside them.
func folders(t *testing.T) []string {
	t.Helper()
	entries, err := os.ReadDir(root)
	if err != nil {
		t.Fatal(err)
	}
	var out []string
	for _, l := range layers {
		out = append(out, l.name)
	}
	for _, e := range entries {
		name := e.Name()
		if e.IsDir() && !strings.HasPrefix(name, ".") && name != "checks" && name != "sharedtests" && !slices.Contains(out, name) {
			out = append(out, name)
		}
	}
	return out
}

// callsOf gives what a layer may call; ok is false of a package that is none.
func callsOf(name string) (calls string, ok bool) {
	for _, l := range layers {
		if l.name == name {
			return l.calls, true
		}
	}
	return "", false
}

// mayImport: only between layers does the document say who calls whom.
func mayImport(folder, path string) bool {
	own, inside := strings.CutPrefix(path, "usher/")
	if !inside {
		return slices.Contains(strings.Fields(libraries), path)
	}
	calls, from := callsOf(folder)
	_, to := callsOf(own)
	return !from || !to || slices.Contains(strings.Fields(calls), own)
}

func TestImports(t *testing.T) {
	for _, folder := range folders(t) {
		for _, s := range sources(t, folder) {
			for _, i := range s.file.Imports {
				path, _ := strconv.Unquote(i.Path.Value)
				if !mayImport(folder, path) {
					t.Errorf("%s may not import %s", s.path, path)
				}
			}
		}
	}
}

func TestLayout(t *testing.T) {
	for _, folder := range folders(t) {
		for _, s := range sources(t, folder) {
			if laid, err := format.Source(s.text); err != nil || !bytes.Equal(laid, s.text) {
				t.Errorf("%s has another layout than gofmt's", s.path)
			}
			for _, g := range s.file.Comments {
				for _, c := range g.List {
					if strings.HasPrefix(c.Text, "//go:") || strings.HasPrefix(c.Text, "// +build") {
						t.Errorf("%s has the line %s", s.path, c.Text)
					}
				}
			}
		}
	}
}

func TestFunctionsAreSmall(t *testing.T) {
	for _, folder := range folders(t) {
		for _, s := range sources(t, folder) {
			for _, d := range s.file.Decls {
				f, ok := d.(*ast.FuncDecl)
				if !ok {
					continue
				}
				lines := s.fset.Position(f.End()).Line - s.fset.Position(f.Pos()).Line + 1
				if lines > longest {
					t.Errorf("%s: %s has %d lines", s.path, f.Name.Name, lines)
				}
			}
		}
	}
}
