// Package lang: tests of how the program is written: the rules of LANGUAGE.md that a text shows, the layers' calls and their order.
package lang

import (
	"bytes"
	"crypto/sha256"
	"encoding/hex"
	"go/ast"
	"go/format"
	"go/parser"
	"go/token"
	"go/types"
	"io/fs"
	"os"
	"path/filepath"
	"slices"
	"strconv"
	"strings"
	"testing"
)

const root = ".."

// layers, the lowest first: a layer imports those ahead of it alone.
var layers = strings.Fields("b64 decimal json sha hmac nat modn der rsa1 pss curve ecdsa ed spki jwk keyset header jws claims jwt serial idtoken replay ring rules gate signet sdjwt dpop cbor cose x509 chain inflate status log")

var library = strings.Fields("bytes cmp container/heap errors iter maps math math/big math/bits slices sort strconv strings sync sync/atomic unicode unicode/utf8")

const longest = 60 // lines of a function

// source: a Go file of the program, no test.
type source struct {
	pack string
	path string
	text []byte
	fset *token.FileSet
	file *ast.File
}

func (s source) where(n ast.Node) string { return s.fset.Position(n.Pos()).String() }

// folders: those that hold packages. sharedtests is laid there by .ci/run, and is not the program's.
func folders(t *testing.T) []string {
	t.Helper()
	l, err := os.ReadDir(root)
	if err != nil {
		t.Fatal(err)
	}
	var out []string
	for _, d := range l {
		if d.IsDir() && !strings.HasPrefix(d.Name(), ".") && d.Name() != "sharedtests" {
			out = append(out, d.Name())
		}
	}
	return out
}

func sources(t *testing.T) []source {
	t.Helper()
	var out []source
	for _, pack := range folders(t) {
		paths, _ := filepath.Glob(filepath.Join(root, pack, "*.go"))
		for _, path := range paths {
			if strings.HasSuffix(path, "_test.go") {
				continue
			}
			text, err := os.ReadFile(path)
			if err != nil {
				t.Fatal(err)
			}
			fset := token.NewFileSet()
			file, err := parser.ParseFile(fset, path, text, parser.ParseComments)
			if err != nil {
				t.Fatal(err)
			}
			out = append(out, source{pack, path, text, fset, file})
		}
	}
	return out
}

func TestPackagesStand(t *testing.T) {
	names := map[string]string{}
	for _, s := range sources(t) {
		names[s.pack] = s.file.Name.Name
	}
	for _, pack := range append([]string{"api"}, layers...) {
		if names[pack] != pack {
			t.Errorf("package %s does not stand in its folder", pack)
		}
	}
	if len(layers) != 36 {
		t.Errorf("%d layers, not 36", len(layers))
	}
}

func TestModule(t *testing.T) {
	text, err := os.ReadFile(filepath.Join(root, "go.mod"))
	if err != nil || string(text) != "module signet\n\ngo 1.27\n" {
		t.Errorf("go.mod: %q, %v", text, err)
	}
}

// Package api is given whole, and stays as it is.
func TestApiAsGiven(t *testing.T) {
	text, err := os.ReadFile(filepath.Join(root, "api", "api.go"))
	if err != nil {
		t.Fatal(err)
	}
	sum := sha256.Sum256(text)
	if got := hex.EncodeToString(sum[:]); got != "0ab095d5423674ba8b8764f22c6370be1f061573e8cf3e3fd8c28039ff61b591" {
		t.Errorf("api.go is not as it was given: %s", got)
	}
}

// calls_test.go holds the signatures; here: that a layer exports nothing beside what stands in it.
func TestNothingElseIsExported(t *testing.T) {
	calls, err := os.ReadFile("calls_test.go")
	if err != nil {
		t.Fatal(err)
	}
	for _, s := range sources(t) {
		if !slices.Contains(layers, s.pack) {
			continue
		}
		for _, name := range exported(s) {
			if !bytes.Contains(calls, []byte(name)) {
				t.Errorf("%s exports %q, which no chapter lists", s.path, name)
			}
		}
	}
}

// exported: how calls_test.go writes what a file exports; of types and values only those that a method stands on are there.
func exported(s source) []string {
	var out []string
	for _, d := range s.file.Decls {
		switch x := d.(type) {
		case *ast.FuncDecl:
			owner := receiver(x)
			switch {
			case !x.Name.IsExported() || owner != "" && !ast.IsExported(owner):
			case owner == "":
				out = append(out, "= "+s.pack+"."+x.Name.Name+"\n")
			default:
				out = append(out, "= (*"+s.pack+"."+owner+")."+x.Name.Name+"\n")
			}
		case *ast.GenDecl:
			for _, name := range declared(x) {
				if ast.IsExported(name) {
					out = append(out, "*"+s.pack+"."+name)
				}
			}
		}
	}
	return out
}

// declared: the names of types, constants and variables.
func declared(d *ast.GenDecl) []string {
	var out []string
	for _, spec := range d.Specs {
		switch x := spec.(type) {
		case *ast.TypeSpec:
			out = append(out, x.Name.Name)
		case *ast.ValueSpec:
			for _, n := range x.Names {
				out = append(out, n.Name)
			}
		}
	}
	return out
}

func receiver(f *ast.FuncDecl) string {
	if f.Recv == nil {
		return ""
	}
	kind := f.Recv.List[0].Type
	if p, ok := kind.(*ast.StarExpr); ok {
		kind = p.X
	}
	if n, ok := kind.(*ast.Ident); ok {
		return n.Name
	}
	return "?"
}

// Rule 1, and: a layer calls those below it.
func TestImports(t *testing.T) {
	for _, s := range sources(t) {
		place := slices.Index(layers, s.pack)
		for _, i := range s.file.Imports {
			path, _ := strconv.Unquote(i.Path.Value)
			own, isOwn := strings.CutPrefix(path, "signet/")
			if !isOwn && !slices.Contains(library, path) {
				t.Errorf("%s: imports %s", s.path, path)
			}
			if below := slices.Index(layers, own); isOwn && place >= 0 && below >= place {
				t.Errorf("%s: imports %s, which is no layer below it", s.path, path)
			}
			if i.Name != nil && i.Name.Name == "." {
				t.Errorf("%s: imports %s without its name", s.path, path)
			}
		}
	}
}

// Rule 1: of sync these alone. Rule 2: no printing.
func TestNames(t *testing.T) {
	for _, s := range sources(t) {
		ast.Inspect(s.file, func(n ast.Node) bool {
			switch x := n.(type) {
			case *ast.SelectorExpr:
				p, ok := x.X.(*ast.Ident)
				if ok && p.Name == "sync" && !strings.Contains(" Mutex RWMutex WaitGroup Once ", " "+x.Sel.Name+" ") {
					t.Errorf("%s: sync.%s", s.where(x), x.Sel.Name)
				}
			case *ast.CallExpr:
				if f, ok := x.Fun.(*ast.Ident); ok && (f.Name == "print" || f.Name == "println") {
					t.Errorf("%s: prints", s.where(x))
				}
			}
			return true
		})
	}
}

// Rule 2: no file beside the Go files, no line for the compiler or the builder.
func TestFiles(t *testing.T) {
	for _, pack := range folders(t) {
		filepath.WalkDir(filepath.Join(root, pack), func(path string, d fs.DirEntry, err error) error {
			if err == nil && !d.IsDir() && filepath.Ext(path) != ".go" {
				t.Errorf("%s is no Go file", path)
			}
			return err
		})
	}
	for _, s := range sources(t) {
		for line := range strings.Lines(string(s.text)) {
			if l := strings.TrimSpace(line); strings.HasPrefix(l, "//go:") || strings.HasPrefix(l, "// +build") {
				t.Errorf("%s: %s", s.path, l)
			}
		}
	}
}

// Rule 9.
func TestLayout(t *testing.T) {
	for _, s := range sources(t) {
		if laid, err := format.Source(s.text); err != nil || !bytes.Equal(laid, s.text) {
			t.Errorf("%s is not in gofmt's layout", s.path)
		}
		for _, d := range s.file.Decls {
			if f, ok := d.(*ast.FuncDecl); ok {
				if n := s.fset.Position(f.End()).Line - s.fset.Position(f.Pos()).Line + 1; n > longest {
					t.Errorf("%s: %s has %d lines", s.where(f), f.Name.Name, n)
				}
			}
		}
	}
}

// Rules 3a and 3b: what may stand at package level. Only signet's section 'Ways' asks for func init, and one variable that it fills.
func TestPackageLevel(t *testing.T) {
	filled := 0
	for _, s := range sources(t) {
		for _, d := range s.file.Decls {
			switch x := d.(type) {
			case *ast.FuncDecl:
				if x.Recv == nil && x.Name.Name == "init" && s.pack != "signet" {
					t.Errorf("%s: func init", s.where(x))
				}
			case *ast.GenDecl:
				if x.Tok == token.VAR {
					for _, spec := range x.Specs {
						v := spec.(*ast.ValueSpec)
						if len(v.Values) == 0 {
							filled += len(v.Names)
						}
						holdVariable(t, s, v)
					}
				}
			}
		}
	}
	if filled > 1 {
		t.Errorf("%d variables without a value", filled)
	}
}

func holdVariable(t *testing.T, s source, v *ast.ValueSpec) {
	t.Helper()
	if len(v.Values) == 0 && s.pack != "signet" {
		t.Errorf("%s: a variable without a value", s.where(v))
	}
	for _, value := range v.Values {
		if b, ok := value.(*ast.BasicLit); ok && b.Kind == token.STRING {
			t.Errorf("%s: a text that is no constant", s.where(v))
		}
		ast.Inspect(value, func(n ast.Node) bool {
			if why := unfit(n); why != "" {
				t.Errorf("%s: %s at package level", s.where(n), why)
			}
			return true
		})
	}
}

func unfit(n ast.Node) string {
	switch x := n.(type) {
	case *ast.MapType:
		return "a map"
	case *ast.FuncLit, *ast.FuncType:
		return "a function"
	case *ast.CallExpr:
		if types.ExprString(x.Fun) != "errors.New" {
			return "a value made by a call"
		}
	case *ast.UnaryExpr:
		if x.Op == token.AND {
			return "a pointer"
		}
	case *ast.BasicLit:
		if x.Kind == token.FLOAT || x.Kind == token.IMAG {
			return "a float"
		}
	}
	return ""
}
