package wicket

import (
	"strings"
	"testing"

	"wicket/api"
	"wicket/token"
)

func TestP4Print(t *testing.T) {
	for text, want := range map[string]string{
		"ask age int; let old bool = 17 < age;":  "ask age int;\nlet old bool = 17 < age;\n",
		price:                                    strings.ReplaceAll(price, "; ", ";\n") + "\n",
		"\nask  a\nint ;let b int=a+-3*( a ) ;":  "ask a int;\nlet b int = a + - 3 * ( a );\n",
		"let a int=-0- -0;":                      "let a int = - 0 - - 0;\n",
		"let a int=((-9223372036854775808));":    "let a int = ( ( - 9223372036854775808 ) );\n",
		"let a bool=not not(1=2)or 1<2and true;": "let a bool = not not ( 1 = 2 ) or 1 < 2 and true;\n",
		`ask c of ""," ;, " ,"é";`:               `ask c of "", " ;, ", "é";` + "\n",
		"ask a int;table t int least(a):not 1/-2/<3/>4=5:[-6..7]=null:-=if true then 1 else a;": "ask a int;\ntable t int least ( a ) : not 1 / - 2 / < 3 / > 4 = 5 : [ - 6 .. 7 ] = null : - = if true then 1 else a;\n",
		"ask a int;ask b bool;table t int count(a,b):-,-=a:-1,true=b;":                          "ask a int;\nask b bool;\ntable t int count ( a, b ) : -, - = a : - 1, true = b;\n",
	} {
		m, errno, place := Load(text)
		if errno != api.OK {
			t.Errorf("P3: Load(%q) = %d, %d", text, errno, place)
			continue
		}
		if got := m.Print(); got != want {
			t.Errorf("P4: %q is printed %q, want %q", text, got, want)
		}
	}
}

func TestP4Again(t *testing.T) {
	for _, text := range models {
		reprint(t, text)
	}
}

// reprint looks that what is printed has the tokens of the text and, where it
// is not too long, loads as the same model.
func reprint(t *testing.T, text string) {
	t.Helper()
	m, errno, _ := Load(text)
	if errno != api.OK {
		return
	}
	printed := m.Print()
	one, other := token.Scan(text), token.Scan(printed)
	if len(one) != len(other) {
		t.Fatalf("P4: %q is printed %q", text, printed)
	}
	for n := range one {
		if one[n].Kind != other[n].Kind || one[n].Text != other[n].Text {
			t.Errorf("P4: %q is printed %q", text, printed)
		}
	}
	again, errno, place := Load(printed)
	if len(printed) > api.MaxModel {
		if errno != api.ErrLong {
			t.Errorf("P3: %d bytes: %d", len(printed), errno)
		}
		return
	}
	if errno != api.OK || again.Print() != printed {
		t.Errorf("P4: %q does not load as itself: %d, %d", printed, errno, place)
	}
}

func TestP4LongerThanAModel(t *testing.T) {
	text := "let a int=1" + strings.Repeat("+1", 494) + ";"
	want := "let a int = 1" + strings.Repeat(" + 1", 494) + ";\n"
	m, errno, _ := Load(text)
	if errno != api.OK || m.Print() != want {
		t.Errorf("P4: a model whose print is longer than MaxModel: %d", errno)
	}
	reprint(t, text)
}

func TestP2ModelsStayAsTheyAre(t *testing.T) {
	var loaded [len(models)]*Model
	var printed [len(models)]string
	for n, text := range models {
		loaded[n], _, _ = Load(text)
		printed[n] = loaded[n].Print()
	}
	Load("ask a int let")
	for n := range models {
		if got := loaded[n].Print(); got != printed[n] {
			t.Errorf("P2: a model is printed %q, and was %q", got, printed[n])
		}
	}
}

func TestP1PrintOfNoModel(t *testing.T) {
	m, _, _ := Load("")
	if got := m.Print(); got != "" {
		t.Errorf("P1: Print = %q", got)
	}
}

func TestP1TheOtherCallsEnd(t *testing.T) {
	for _, text := range models {
		m, _, _ := Load(text)
		printed := m.Print()
		for _, name := range []string{"", "a", "price", "\xff"} {
			m.Check(name)
			f := m.New()
			f.Set(name, "1")
			f.Drop(name)
			f.Value(name)
			f.Last()
			f.Wanted(name)
		}
		if m.Print() != printed {
			t.Errorf("P2: a form changed its model %q", text)
		}
	}
}
