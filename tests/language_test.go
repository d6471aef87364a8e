package tests

import (
	"bytes"
	"go/ast"
	"go/format"
	"go/parser"
	"go/token"
	"os"
	"path/filepath"
	"strings"
	"testing"
)

const allowed = " bytes cmp container/heap errors iter maps math math/bits slices sort strconv strings sync sync/atomic unicode unicode/utf8 "

// The program keeps to gofmt's layout and to the library's packages that the language page names.
func TestLayoutAndImports(t *testing.T) {
	files, err := filepath.Glob("../impl/*")
	if err != nil || len(files) == 0 {
		t.Fatal(files, err)
	}
	for _, name := range files {
		if !strings.HasSuffix(name, ".go") {
			t.Error("a file that is no Go file:", name)
			continue
		}
		text, err := os.ReadFile(name)
		if err != nil {
			t.Fatal(err)
		}
		if laid, err := format.Source(text); err != nil || !bytes.Equal(laid, text) {
			t.Error("not in gofmt's layout:", name, err)
		}
		f, err := parser.ParseFile(token.NewFileSet(), name, text, parser.ImportsOnly)
		if err != nil {
			t.Fatal(err)
		}
		for _, i := range f.Imports {
			path := strings.Trim(i.Path.Value, `"`)
			if !strings.Contains(allowed, " "+path+" ") && !strings.HasPrefix(path, "loop.example/g00142/") {
				t.Error("import of", path, "in", name)
			}
		}
	}
}

// The chapter 'Ways': the log has an interface for records, one type each, asked by a type switch.
func TestWaysOfTheLog(t *testing.T) {
	f, err := parser.ParseFile(token.NewFileSet(), "../impl/l03_wal.go", nil, 0)
	if err != nil {
		t.Fatal(err)
	}
	interfaces, cases := 0, 0
	ast.Inspect(f, func(n ast.Node) bool {
		switch x := n.(type) {
		case *ast.InterfaceType:
			interfaces++
		case *ast.TypeSwitchStmt:
			cases += len(x.Body.List)
		}
		return true
	})
	if interfaces == 0 || cases < 3 {
		t.Error("interfaces", interfaces, "cases of type switches", cases)
	}
}
