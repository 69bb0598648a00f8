package wicket

import (
	"slices"
	"testing"

	"wicket/api"
)

func lasts(t *testing.T, f *Form, want ...string) {
	t.Helper()
	if got := f.Last(); !slices.Equal(got, want) {
		t.Errorf("P7: Last of %q = %v, want %v", printed(f), got, want)
	}
}

func TestP7New(t *testing.T) {
	for text, want := range map[string][]string{
		"ask a int; ask p bool;": nil,
		"let b int = 1;":         {"b"},
		"ask a int; let z int = a; ask p bool; table c int sum (a) : - = 1; let b bool = p; let d int = 1 / 0; let e int = null;": {"z", "c", "b", "d", "e"},
	} {
		f := begun(t, text)
		lasts(t, f, want...)
		sets(t, f, "nosuch", "1", api.ErrQuestion)
		sets(t, f, "z", "1", api.ErrQuestion)
		sets(t, f, "b", "", api.ErrQuestion)
		drops(t, f, "b", api.ErrQuestion)
		lasts(t, f, want...)
	}
	f := begun(t, "ask a int; let b int = a;")
	sets(t, f, "a", "x", api.ErrValue)
	lasts(t, f, "b")
	drops(t, f, "a", api.OK) // there was no answer: nothing has become another
	lasts(t, f)
}

func TestP7Example(t *testing.T) {
	f := begun(t, price)
	lasts(t, f, "price")
	sets(t, f, "plan", `"gold"`, api.OK)
	lasts(t, f, "price")
	sets(t, f, "age", "5", api.OK)
	lasts(t, f, "price")
	sets(t, f, "age", "5", api.OK)
	lasts(t, f)
}

// TestP7Steps: each step is a Set or, without a value, a Drop, and what Last tells then.
func TestP7Steps(t *testing.T) {
	type step struct {
		question, value string
		errno           api.Errno
		last            []string
	}
	for text, steps := range map[string][]step{
		// far is not named by anything that changes, as long as near stays the same.
		"ask a int; let near bool = a < 10; let far int = if near then 1 else 2; let both int = far + a;": {
			{"a", "1", api.OK, []string{"near", "far", "both"}},
			{"a", "2", api.OK, []string{"near", "both"}},
			{"a", "2", api.OK, nil},
			{"a", "10", api.OK, []string{"near", "far", "both"}},
			{"a", "x", api.ErrValue, []string{"near", "far", "both"}},
			{"a", "11", api.OK, []string{"near", "both"}},
			{"far", "1", api.ErrQuestion, []string{"near", "both"}},
			{"far", "", api.ErrQuestion, []string{"near", "both"}},
			{"a", "", api.OK, []string{"near", "far", "both"}},
			{"a", "", api.OK, nil},
			{"a", "", api.OK, nil},
			{"a", "null", api.ErrValue, nil},
			{"a", "10", api.OK, []string{"near", "far", "both"}},
		},
		// What is named counts, not what weighs: a branch that is not taken, an
		// output that is not told, a column without tests, one side of `and`.
		"ask a int; ask p bool; let i int = if false then a else 1; table c int count (p) : - = a; table u int unique (a) : - = 1; let d bool = false and a = 1; let z int = 0 * a; let n int = 1;": {
			{"a", "1", api.OK, []string{"i", "c", "u", "d", "z"}},
			{"p", "true", api.OK, []string{"c"}},
			{"a", "", api.OK, []string{"i", "c", "u", "d", "z"}},
			{"p", "false", api.OK, []string{"c"}},
		},
		// Decisions that stay the same stop what hangs on them, wrong ones too.
		"ask a int; let w int = 1 / a; let v int = w + 1; table t int first (w, v) : -, - = 3; let r int = t;": {
			{"a", "0", api.OK, []string{"w", "v", "t"}},
			{"a", "1", api.OK, []string{"w", "v", "t"}},
			{"a", "2", api.OK, []string{"w", "v", "t"}},
			{"a", "3", api.OK, []string{"w"}},
			{"a", "", api.OK, []string{"w", "v", "t"}},
			{"a", "0", api.OK, []string{"w", "v", "t"}},
			{"a", "-0", api.ErrValue, []string{"w", "v", "t"}},
		},
		"ask a int; let w int = a / 0; let v int = w + 1; let u int = v;": {
			{"a", "1", api.OK, []string{"w", "v", "u"}},
			{"a", "2", api.OK, []string{"w"}},
			{"a", "", api.OK, []string{"w", "v", "u"}},
		},
		// Words and bools become others, too; each decision is told once.
		`ask c of "x", "y", ""; ask p bool; let d of "x", "y", "" = c; let e bool = d = "x" or d = "y"; let f bool = not e; let g bool = p and e and f;`: {
			{"c", `"x"`, api.OK, []string{"d", "e", "f", "g"}},
			{"c", `"y"`, api.OK, []string{"d", "e"}},
			{"p", "false", api.OK, []string{"g"}},
			{"c", `""`, api.OK, []string{"d", "e", "f", "g"}},
			{"c", `""`, api.OK, nil},
			{"c", "", api.OK, []string{"d", "e", "f", "g"}},
			{"p", "false", api.OK, nil},
			{"p", "true", api.OK, []string{"g"}},
			{"c", "x", api.ErrValue, []string{"g"}},
			{"z", "x", api.ErrQuestion, []string{"g"}},
		},
		// A question that nothing names.
		"ask a int; ask b int; let c int = b;": {
			{"b", "1", api.OK, []string{"c"}},
			{"a", "1", api.OK, nil},
			{"b", "1", api.OK, nil},
			{"a", "", api.OK, nil},
			{"b", "", api.OK, []string{"c"}},
		},
		// Items that stand ahead of the question, or hang on another.
		"let k int = 1; ask b int; let l int = k; ask a int; let c int = a + k; let d int = b + k; table e int sum (d, b) : -, - = c;": {
			{"a", "1", api.OK, []string{"c", "e"}},
			{"b", "1", api.OK, []string{"d", "e"}},
			{"a", "2", api.OK, []string{"c", "e"}},
		},
	} {
		f := begun(t, text)
		for n, s := range steps {
			if s.value == "" {
				drops(t, f, s.question, s.errno)
			} else {
				sets(t, f, s.question, s.value, s.errno)
			}
			if got := f.Last(); !slices.Equal(got, s.last) {
				t.Errorf("P7: %q, step %d: Last = %v, want %v", text, n, got, s.last)
			}
		}
	}
}

// TestP7OtherCallsDoNotCount: Last tells of Set and Drop alone.
func TestP7OtherCallsDoNotCount(t *testing.T) {
	m, _, _ := Load("ask a int; let b int = a; let c int = 2;")
	f := m.New()
	sets(t, f, "a", "1", api.OK)
	f.Value("b")
	f.Value("nosuch")
	f.Wanted("b")
	f.Last()
	m.New().Set("a", "3")
	m.Print()
	lasts(t, f, "b")
}

// TestP2LastIsTheCallers writes into what came out, and into its spare room.
func TestP2LastIsTheCallers(t *testing.T) {
	m, _, _ := Load("ask a int; let b int = a; let c int = b; let d int = 1; let e int = a + c + d;")
	f, g := m.New(), m.New()
	sets(t, f, "a", "1", api.OK)
	first, second := f.Last(), f.Last()
	fresh := g.Last()
	for _, list := range [][]string{first, fresh, append(f.Last(), "!", "!")} {
		for n := range list[:cap(list)] {
			list[:cap(list)][n] = "!"
		}
	}
	if want := []string{"b", "c", "e"}; !slices.Equal(second, want) {
		t.Errorf("P2: Last = %v, want %v", second, want)
	}
	lasts(t, f, "b", "c", "e")
	lasts(t, g, "b", "c", "d", "e")
	lasts(t, m.New(), "b", "c", "d", "e")
	comesTo(t, f, "e", "3")
}
