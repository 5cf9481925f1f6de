package request_test

import (
	"go/ast"
	"go/parser"
	"go/token"
	"math"
	"path/filepath"
	"strconv"
	"strings"
	"testing"

	"docket/api"
	"docket/request"
)

// errnos are the constants of api that are an Errno, by their names.
func errnos(t *testing.T) map[string]api.Errno {
	t.Helper()
	files, err := filepath.Glob("../api/*.go")
	if err != nil || len(files) == 0 {
		t.Fatal(files, err)
	}
	found := map[string]api.Errno{}
	for _, file := range files {
		f, err := parser.ParseFile(token.NewFileSet(), file, nil, 0)
		if err != nil {
			t.Fatal(err)
		}
		ast.Inspect(f, func(n ast.Node) bool {
			spec, is := n.(*ast.ValueSpec)
			if !is {
				return true
			}
			if kind, is := spec.Type.(*ast.Ident); !is || kind.Name != "Errno" {
				return true
			}
			for i, name := range spec.Names {
				number, err := strconv.Atoi(spec.Values[i].(*ast.BasicLit).Value)
				if err != nil {
					t.Fatal(name.Name, err)
				}
				found[name.Name] = api.Errno(number)
			}
			return true
		})
	}
	return found
}

// TestNames: P16.6, and of P16.9 that unlike errors have unlike names.
func TestNames(t *testing.T) {
	all := errnos(t)
	if len(all) < 84 || all["ErrNested"] != api.ErrNested || all["ErrKindOf"] != api.ErrKindOf || all["ErrConsole"] != api.ErrConsole {
		t.Fatalf("%d constants: %v", len(all), all)
	}
	known, names := map[api.Errno]string{}, map[string]api.Errno{}
	for constant, e := range all {
		want := strings.ToLower(strings.TrimPrefix(constant, "Err"))
		known[e] = want
		got := request.Name(e)
		if got != want {
			t.Errorf("Name of %s: %q", constant, got)
		}
		if other, had := names[got]; had {
			t.Errorf("%d and %d are both %q", other, e, got)
		}
		names[got] = e
	}
	for _, e := range []api.Errno{math.MinInt, math.MinInt + 1, math.MaxInt, math.MaxInt - 1, 1 << 32, -1 << 32, 9999} {
		if got := request.Name(e); got != "unknown" {
			t.Errorf("Name(%d): %q", e, got)
		}
	}
	for e := api.Errno(-2000); e < 2000; e++ {
		if want, is := known[e]; request.Name(e) != want && (is || request.Name(e) != "unknown") {
			t.Errorf("Name(%d): %q", e, request.Name(e))
		}
	}
	if _, had := names["unknown"]; had {
		t.Error("an error of api is called unknown")
	}
}

func TestSomeNames(t *testing.T) {
	for e, want := range map[api.Errno]string{
		0: "ok", 1: "long", 44: "nested", 6: "unknown", 9: "unknown", 59: "doc", 167: "stale", 168: "stamps", 169: "unknown", 220: "notempty", 281: "kindof", 300: "console", -1: "unknown",
	} {
		if got := request.Name(e); got != want {
			t.Errorf("Name(%d): %q", e, got)
		}
	}
}
