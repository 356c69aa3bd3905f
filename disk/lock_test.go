package disk_test

import (
	"go/ast"
	"go/parser"
	"go/token"
	"go/types"
	"path/filepath"
	"strings"
	"testing"
)

// P10.7: a race that tears nothing here and now is seen by no answer, so the text is asked, too: each call takes the lock first, and lets it go in the end.
func TestEachCallHoldsTheLock(t *testing.T) {
	names, err := filepath.Glob("*.go")
	if err != nil {
		t.Fatal(err)
	}
	calls := 0
	for _, name := range names {
		if strings.HasSuffix(name, "_test.go") {
			continue
		}
		file, err := parser.ParseFile(token.NewFileSet(), name, nil, 0)
		if err != nil {
			t.Fatal(err)
		}
		for _, decl := range file.Decls {
			f, ok := decl.(*ast.FuncDecl)
			if !ok || f.Recv == nil || !f.Name.IsExported() {
				continue
			}
			calls++
			if !locksFirst(f.Body.List) {
				t.Errorf("%s does not begin with the lock", f.Name.Name)
			}
		}
	}
	if calls != 16 {
		t.Errorf("%d calls", calls)
	}
}

func locksFirst(l []ast.Stmt) bool {
	if len(l) < 2 {
		return false
	}
	first, ok := l[0].(*ast.ExprStmt)
	last, deferred := l[1].(*ast.DeferStmt)
	return ok && deferred && types.ExprString(first.X) == "d.lock.Lock()" && types.ExprString(last.Call) == "d.lock.Unlock()"
}
