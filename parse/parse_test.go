package parse

import (
	"strconv"
	"strings"
	"testing"

	"wicket/api"
	"wicket/tree"
	"wicket/value"
)

// items reads a text that must be a model.
func items(t *testing.T, text string) []tree.Item {
	t.Helper()
	list, errno, place := Items(text)
	if errno != api.OK || place != 0 {
		t.Fatalf("Items(%q) = %d, %d", text, errno, place)
	}
	return list
}

var signs = [...]string{tree.Or: "or", tree.And: "and", tree.Not: "not", tree.Equal: "=", tree.Less: "<", tree.Add: "+", tree.Subtract: "-", tree.Multiply: "*", tree.Divide: "/", tree.If: "if"}

// shape writes an expression with brackets around all that has parts.
func shape(n *tree.Node) string {
	switch n.Kind {
	case tree.Literal:
		return written(n.Value)
	case tree.Name:
		return "#" + strconv.Itoa(n.Item)
	}
	parts := []string{signs[n.Kind]}
	for _, part := range n.Parts {
		parts = append(parts, shape(part))
	}
	return "(" + strings.Join(parts, " ") + ")"
}

func written(v value.Value) string {
	switch v.Kind {
	case value.Int:
		return strconv.FormatInt(v.Number, 10)
	case value.Bool:
		return strconv.FormatBool(v.Truth)
	case value.Word:
		return "'" + v.Text + "'"
	}
	return "null"
}

func TestShapes(t *testing.T) {
	for text, want := range map[string]string{
		"1 - 2 - 3":                  "(- (- 1 2) 3)",
		"1 / 2 * 3":                  "(* (/ 1 2) 3)",
		"1 + 2 * 3 - 4":              "(- (+ 1 (* 2 3)) 4)",
		"(1 + 2) * 3":                "(* (+ 1 2) 3)",
		"1 - (2 - 3)":                "(- 1 (- 2 3))",
		"1 - -2":                     "(- 1 -2)",
		"-9223372036854775808":       "-9223372036854775808",
		"9223372036854775807":        "9223372036854775807",
		"-0":                         "0",
		"1 + 2 = 3 * 4":              "(= (+ 1 2) (* 3 4))",
		"1 < b + 1":                  "(< 1 (+ #1 1))",
		"not not a = b":              "(not (not (= #0 #1)))",
		"not a and b or a and not b": "(or (and (not #0) #1) (and #0 (not #1)))",
		"a or b or a":                "(or (or #0 #1) #0)",
		"a and b and a":              "(and (and #0 #1) #0)",
		"if a then 1 else 2 + 3":     "(if #0 1 (+ 2 3))",
		"(if a then 1 else 2) + 3":   "(+ (if #0 1 2) 3)",
		"if a then if b then 1 else 2 else if null then 3 else 4": "(if #0 (if #1 1 2) (if null 3 4))",
		"if if a then b else a then 1 else 2":                     "(if (if #0 #1 #0) 1 2)",
		`("x y") = ((true))`:                                      `(= 'x y' true)`,
		`"" = false`:                                              `(= '' false)`,
	} {
		list := items(t, "ask a bool; ask b int; let c int = "+text+";")
		if got := shape(list[2].Expr); got != want {
			t.Errorf("%q is %s, want %s", text, got, want)
		}
	}
}

func TestTable(t *testing.T) {
	list := items(t, `ask a int; let b bool = true; table t of "x", "y" most (b, a) : -, -5 = "x" : not true/false, < 1/>-2/[-3 .. 4]/5 = "y";`)
	table := list[2]
	if table.Kind != tree.Table || table.Name != "t" || table.Policy != tree.Most {
		t.Errorf("head: %d, %q, %d", table.Kind, table.Name, table.Policy)
	}
	if want := (value.Type{Kind: value.Word}).With("x").With("y"); table.Type != want {
		t.Errorf("type: %v", table.Type)
	}
	if len(table.Columns) != 2 || table.Columns[0] != 1 || table.Columns[1] != 0 {
		t.Errorf("columns: %v", table.Columns)
	}
	got := ""
	for _, rule := range table.Rules {
		got += ":"
		for _, cell := range rule.Cells {
			got += " " + cellShape(cell)
		}
		got += " = " + shape(rule.Output) + " "
	}
	if want := ": {} {0 -5} = 'x' : not{0 true,0 false} {1 1,2 -2,3 -3 4,0 5} = 'y' "; got != want {
		t.Errorf("rules: %s, want %s", got, want)
	}
}

func cellShape(cell tree.Cell) string {
	list := []string{}
	for _, test := range cell.Tests {
		one := strconv.Itoa(int(test.Kind)) + " " + written(test.Value)
		if test.Kind == tree.Between {
			one += " " + written(test.Upper)
		}
		list = append(list, one)
	}
	out := "{" + strings.Join(list, ",") + "}"
	if cell.Not {
		return "not" + out
	}
	return out
}

func TestPolicies(t *testing.T) {
	for policy, name := range []string{"unique", "first", "sum", "count", "least", "most"} {
		list := items(t, "ask a int; table t int "+name+" (a) : - = 1;")
		if got := list[1].Policy; got != tree.Policy(policy) {
			t.Errorf("%s is the policy %d", name, got)
		}
	}
}

func TestItemsHaveTheirTokens(t *testing.T) {
	list := items(t, " ask a int ;let b int=a;")
	if len(list) != 2 || len(list[0].Tokens) != 4 || len(list[1].Tokens) != 6 {
		t.Fatalf("items: %v", list)
	}
	if list[0].Place() != 1 || list[1].Place() != 12 {
		t.Errorf("places: %d, %d", list[0].Place(), list[1].Place())
	}
}
