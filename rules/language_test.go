package rules

import (
	"go/ast"
	"go/parser"
	"go/token"
	"os"
	"path/filepath"
	"slices"
	"strconv"
	"strings"
	"testing"
)

// library is what a layer may import of Go's library.
const library = "bytes cmp container/heap errors iter maps math math/bits slices sort strconv strings sync sync/atomic unicode unicode/utf8"

const layers = "octet galois aes ghash ctr gcm pack disk regs seal runs slot chain graft tree scan sound meta pager commit revive hier roll quota caps ideal vault witness play"

// packages is the layers, and those beside them.
func packages() []string { return append(strings.Fields(layers), "sample") }

func TestLayersAreGoFilesAlone(t *testing.T) {
	for _, layer := range packages() {
		list, err := os.ReadDir(filepath.Join("..", layer))
		if err != nil {
			t.Fatal(err)
		}
		for _, x := range list {
			if !x.IsDir() && filepath.Ext(x.Name()) != ".go" {
				t.Errorf("%s has %s beside its Go files", layer, x.Name())
			}
		}
	}
}

func TestLayersKeepToTheLanguage(t *testing.T) {
	for _, layer := range packages() {
		files, err := filepath.Glob(filepath.Join("..", layer, "*.go"))
		if err != nil || len(files) == 0 {
			t.Fatal(layer, "has no Go file", err)
		}
		for _, path := range files {
			if strings.HasSuffix(path, "_test.go") {
				continue
			}
			file, err := parser.ParseFile(token.NewFileSet(), path, nil, parser.ParseComments)
			if err != nil {
				t.Fatal(err)
			}
			checkImports(t, path, file)
			checkComments(t, path, file)
		}
	}
}

func checkImports(t *testing.T, path string, file *ast.File) {
	for _, x := range file.Imports {
		name, err := strconv.Unquote(x.Path.Value)
		if err != nil {
			t.Fatal(err)
		}
		if !strings.HasPrefix(name, "donjon/") && !slices.Contains(strings.Fields(library), name) {
			t.Errorf("%s imports %s", path, name)
		}
		if name == "donjon/sample" {
			t.Errorf("%s imports what is for tests alone", path)
		}
	}
}

func checkComments(t *testing.T, path string, file *ast.File) {
	for _, group := range file.Comments {
		for _, c := range group.List {
			for _, word := range []string{"//go:", "// +build", "//export ", "//line "} {
				if strings.HasPrefix(c.Text, word) {
					t.Errorf("%s has the line %s", path, c.Text)
				}
			}
		}
	}
}
