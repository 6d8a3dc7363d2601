package rules

import (
	"bytes"
	"go/ast"
	"go/format"
	"go/parser"
	"go/token"
	"os"
	"path/filepath"
	"slices"
	"strconv"
	"strings"
	"testing"
)

// layers are the packages, each of which may call those ahead of it.
func layers() []string {
	return strings.Fields("word name isa asm cpu mem tlb dev caps pool quanta extent cachereg area revoke kernel machine audit vm pipe fds file proc posix libos script")
}

// library are the packages of Go's own that the program may import: none of them reaches the clock, chance, files or the environment.
func library() []string {
	return strings.Fields("bytes cmp container/heap errors iter maps math math/bits slices sort strconv strings sync sync/atomic unicode unicode/utf8")
}

type source struct {
	path, pack string
	text       []byte
	file       *ast.File
	set        *token.FileSet
}

// sources are the program's files, without tests.
func sources(t *testing.T) []source {
	t.Helper()
	paths, err := filepath.Glob("../*/*.go")
	if err != nil || len(paths) == 0 {
		t.Fatal(paths, err)
	}
	var l []source
	for _, path := range paths {
		if strings.HasSuffix(path, "_test.go") || strings.HasPrefix(path, "../sharedtests/") {
			continue
		}
		s := source{path: path, pack: filepath.Base(filepath.Dir(path)), set: token.NewFileSet()}
		if s.text, err = os.ReadFile(path); err != nil {
			t.Fatal(err)
		}
		if s.file, err = parser.ParseFile(s.set, path, s.text, parser.ParseComments); err != nil {
			t.Fatal(err)
		}
		l = append(l, s)
	}
	return l
}

// TestLayersAreThere: every layer has its package.
func TestLayersAreThere(t *testing.T) {
	have := map[string]int{}
	for _, s := range sources(t) {
		have[s.pack]++
	}
	for _, layer := range append(layers(), "api") {
		if have[layer] == 0 {
			t.Error(layer)
		}
	}
}

// TestP6Imports: nothing is imported that could ask the clock, chance or the environment, and no layer calls one behind it.
func TestP6Imports(t *testing.T) {
	for _, s := range sources(t) {
		for _, i := range s.file.Imports {
			path, err := strconv.Unquote(i.Path.Value)
			if err != nil {
				t.Fatal(err)
			}
			own, inside := strings.CutPrefix(path, "embrasure/")
			if !inside && !slices.Contains(library(), path) {
				t.Error(s.path, "imports", path)
			}
			here, there := slices.Index(layers(), s.pack), slices.Index(layers(), own)
			if inside && here >= 0 && there >= here {
				t.Error(s.path, "calls a layer that is not ahead of it:", own)
			}
		}
	}
}

// TestP6NothingIsKept: at package level no variable stands without its value, and none is written to, so that no call can leave anything there.
func TestP6NothingIsKept(t *testing.T) {
	all := sources(t)
	tables := map[string]bool{}
	for _, s := range all {
		for _, v := range variables(s.file) {
			if len(v.Values) != len(v.Names) {
				t.Error(s.path, "keeps", v.Names[0].Name)
			}
			for _, n := range v.Names {
				tables[s.pack+"."+n.Name] = true
			}
		}
	}
	for _, s := range all {
		ast.Inspect(s.file, func(n ast.Node) bool {
			for _, left := range targets(n) {
				if tables[s.pack+"."+written(left)] {
					t.Error(s.set.Position(n.Pos()), "writes", written(left))
				}
			}
			return true
		})
	}
}

// variables are those that stand at package level.
func variables(file *ast.File) []*ast.ValueSpec {
	var l []*ast.ValueSpec
	for _, d := range file.Decls {
		g, ok := d.(*ast.GenDecl)
		if !ok || g.Tok != token.VAR {
			continue
		}
		for _, spec := range g.Specs {
			l = append(l, spec.(*ast.ValueSpec))
		}
	}
	return l
}

// targets are the sides that a statement writes to; what is taken by its address may be written later.
func targets(n ast.Node) []ast.Expr {
	switch x := n.(type) {
	case *ast.AssignStmt:
		if x.Tok != token.DEFINE {
			return x.Lhs
		}
	case *ast.IncDecStmt:
		return []ast.Expr{x.X}
	case *ast.UnaryExpr:
		if x.Op == token.AND {
			return []ast.Expr{x.X}
		}
	}
	return nil
}

// written is the variable that a left side writes to.
func written(left ast.Expr) string {
	for {
		switch x := left.(type) {
		case *ast.Ident:
			return x.Name
		case *ast.IndexExpr:
			left = x.X
		case *ast.SelectorExpr:
			left = x.X
		default:
			return ""
		}
	}
}

// TestForm: gofmt's layout, functions of at most 60 lines, no line for the tools.
func TestForm(t *testing.T) {
	for _, s := range sources(t) {
		laid, err := format.Source(s.text)
		if err != nil || !bytes.Equal(laid, s.text) {
			t.Error(s.path, "is not in gofmt's layout", err)
		}
		for _, d := range s.file.Decls {
			f, ok := d.(*ast.FuncDecl)
			if !ok {
				continue
			}
			if lines := s.set.Position(f.End()).Line - s.set.Position(f.Pos()).Line + 1; lines > 60 {
				t.Error(s.path, f.Name.Name, "has", lines, "lines")
			}
		}
		for _, c := range s.file.Comments {
			for _, line := range c.List {
				if strings.HasPrefix(line.Text, "//go:") || strings.HasPrefix(line.Text, "// +build") {
					t.Error(s.path, line.Text)
				}
			}
		}
	}
}
