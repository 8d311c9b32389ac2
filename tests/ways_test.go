package tests

import (
	"go/ast"
	"go/parser"
	"go/token"
	"path/filepath"
	"slices"
	"testing"
)

// functionsOf are the functions of the program by their names, and the methods, of which some may be of one name.
func functionsOf(t *testing.T) map[string][]*ast.FuncDecl {
	t.Helper()
	files, _ := filepath.Glob("../impl/*.go")
	out := map[string][]*ast.FuncDecl{}
	for _, file := range files {
		parsed, err := parser.ParseFile(token.NewFileSet(), file, nil, parser.SkipObjectResolution)
		if err != nil {
			t.Fatal(err)
		}
		for _, d := range parsed.Decls {
			if f, ok := d.(*ast.FuncDecl); ok {
				out[f.Name.Name] = append(out[f.Name.Name], f)
			}
		}
	}
	return out
}

// reachedFrom are all names that stand in a part of the program, and in the functions that it names, and so on.
func reachedFrom(part ast.Node, functions map[string][]*ast.FuncDecl) map[string]bool {
	reached := map[string]bool{}
	parts := []ast.Node{part}
	for len(parts) > 0 {
		ast.Inspect(parts[0], func(n ast.Node) bool {
			name, ok := n.(*ast.Ident)
			if ok && !reached[name.Name] {
				reached[name.Name] = true
				for _, f := range functions[name.Name] {
					parts = append(parts, f)
				}
			}
			return true
		})
		parts = parts[1:]
	}
	return reached
}

// The table of the bytes of Data stays, and DataRight alone reads it; neither its answer nor that of another function is computed from it.
func TestNoAnswerIsComputedFromTheDataTable(t *testing.T) {
	functions := functionsOf(t)
	variables := []string{"dataTable", "dataTableOnce"}
	for _, variable := range variables {
		var readers []string
		for name, declared := range functions {
			if ast.IsExported(name) && reachedFrom(declared[0].Name, functions)[variable] {
				readers = append(readers, name)
			}
		}
		if !slices.Equal(readers, []string{"DataRight"}) {
			t.Errorf("%s is reached by %q", variable, readers)
		}
	}
	answers := 0
	ast.Inspect(functions["DataRight"][0], func(n ast.Node) bool {
		if answer, ok := n.(*ast.ReturnStmt); ok {
			answers++
			reached := reachedFrom(answer, functions)
			same(t, "asked of a function", reached["dataFits"] && !reached[variables[0]] && !reached[variables[1]], true)
		}
		return true
	})
	same(t, "DataRight answers at one place", answers, 1)
}
