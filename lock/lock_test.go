package lock

import (
	"reflect"
	"strconv"
	"strings"
	"testing"

	"cooper/api"
	"cooper/descent"
	"cooper/graph"
	"cooper/testkit"
)

const text = "lock 1\nnode a 1.rc x=on y=1\n  needs b\n  needs c\nnode b 2\nnode c 0 x=a x=a\n"

func whole() api.Graph {
	return api.Graph{Nodes: []api.Node{
		{Name: "a", Version: "1.rc", Settings: []api.Setting{{Name: "x", Value: "on"}, {Name: "y", Value: "1"}}, Needs: []string{"b", "c"}},
		{Name: "b", Version: "2"},
		{Name: "c", Version: "0", Settings: []api.Setting{{Name: "x", Value: "a"}, {Name: "x", Value: "a"}}},
	}}
}

func TestWriteAndParse(t *testing.T) {
	if got, ok := Write(whole()); !ok || got != text {
		t.Errorf("%q", got)
	}
	g, where, err := Parse(text)
	if err != api.OK || where != (api.Where{}) || !graph.Same(g, whole()) {
		t.Error(g, where, err)
	}
	if got, ok := Write(api.Graph{}); !ok || got != "lock 1\n" {
		t.Errorf("%q", got)
	}
	if g, _, err := Parse("lock 1\n"); err != api.OK || len(g.Nodes) != 0 {
		t.Error(g, err)
	}
	if _, _, err := Parse("lock 1\nnode a 1\n  needs nothing\n"); err != api.OK {
		t.Error("what is needed may be no node")
	}
}

func TestParseWrongTexts(t *testing.T) {
	nodes := "lock 1\n"
	for i := range 24 {
		nodes += "node p" + strconv.Itoa(10+i) + " 1\n"
	}
	needs := "lock 1\nnode a 1\n"
	for i := range 24 {
		needs += "  needs p" + strconv.Itoa(10+i) + "\n"
	}
	for wrong, line := range map[string]int{
		"": 1, "\n": 1, "lock": 1, "lock 1": 2, "lock 2\n": 1, "lock 1 \n": 1, " lock 1\n": 1, "lock 1\r\n": 1,
		"lock 1\n\n": 2, "lock 1\nlock 1\n": 2, "lock 1\nnode a 1": 3, "lock 1\nnode a": 2, "lock 1\nnode": 2, "lock 1\nn": 2,
		"lock 1\nnode a\n": 2, "lock 1\nnode a 01\n": 2, "lock 1\nnode A 1\n": 2, "lock 1\nnode a 1 \n": 2, "lock 1\nnode  a 1\n": 2, "lock 1\n node a 1\n": 2, "lock 1\nnode a 1 x\n": 2,
		"lock 1\nnode a 1 x=\n": 2, "lock 1\nnode a 1 =1\n": 2, "lock 1\nnode a 1 x=1=1\n": 2, "lock 1\nnode a 1 x=1000\n": 2, "lock 1\nnode a 1 a=1 b=1 c=1 d=1 e=1\n": 2,
		"lock 1\nnode b 1\nnode a 1\n": 3, "lock 1\nnode a 1\nnode a 2\n": 3, "lock 1\n  needs a\n": 2, "lock 1\nnode a 1\n  needs\n": 3, "lock 1\nnode a 1\n  needs \n": 3, "lock 1\nnode a 1\n needs b\n": 3,
		"lock 1\nnode a 1\n  needs B\n": 3, "lock 1\nnode a 1\n  needs c\n  needs b\n": 4, "lock 1\nnode a 1\n  needs b\n  needs b\n": 4, "lock 1\nnode a 1\n  needs b c\n": 3, "lock 1\nnode a 1\n  needs b \n": 3,
		"lock 1\nnode a 1\n# more\n": 3, "lock 1\nnode a 1\n  needs b": 4, "lock 1\nnode a 1\n\nnode B 1\n": 3, nodes + "node q 1\n": 26, needs + "  needs q\n": 27, "lock 1\nnode a 1\x00\n": 2,
	} {
		g, where, err := Parse(wrong)
		if err != api.ErrParse || where != (api.Where{Line: line}) || len(g.Nodes) != 0 {
			t.Errorf("%q: %v %v %v, want %d", wrong, g, where, err, line)
		}
	}
	for _, right := range []string{nodes, needs, "lock 1\nnode a 1 a=1 b=1 c=1 d=1\n"} {
		if g, _, err := Parse(right); err != api.OK {
			t.Error(err)
		} else if again, ok := Write(g); !ok || again != right {
			t.Error("what is read is written as it stood")
		}
	}
}

func TestGraphsThatMayNotBeWritten(t *testing.T) {
	setting := func(name, value string) []api.Setting { return []api.Setting{{Name: name, Value: value}} }
	var many []api.Node
	var names []string
	for i := range 25 {
		many = append(many, api.Node{Name: "p" + strconv.Itoa(10+i), Version: "1"})
		names = append(names, "p"+strconv.Itoa(10+i))
	}
	for i, nodes := range [][]api.Node{
		{{Name: "A", Version: "1"}}, {{Name: "", Version: "1"}}, {{Name: "a"}}, {{Name: "a", Version: "01"}}, {{Name: "a b", Version: "1"}}, {{Name: "a", Version: "1 x=1"}},
		{{Name: "a", Version: "1\n  needs b"}}, {{Name: "a", Version: "1", Settings: setting("X", "1")}}, {{Name: "a", Version: "1", Settings: setting("x", "")}},
		{{Name: "a", Version: "1", Settings: setting("x", "1 y=1")}}, {{Name: "a", Version: "1", Settings: setting("x=1", "1")}}, {{Name: "a", Version: "1", Needs: []string{"B"}}},
		{{Name: "a", Version: "1", Needs: []string{"c", "b"}}}, {{Name: "a", Version: "1", Needs: []string{"b", "b"}}}, {{Name: "b", Version: "1"}, {Name: "a", Version: "1"}},
		{{Name: "a", Version: "1"}, {Name: "a", Version: "1"}}, many, {{Name: "a", Version: "1", Needs: names}}, {{Name: "a", Version: "1", Settings: append(append(setting("a", "1"), setting("b", "1")...), append(append(setting("c", "1"), setting("d", "1")...), setting("e", "1")...)...)}},
	} {
		if got, ok := Write(api.Graph{Nodes: nodes}); ok || got != "" {
			t.Errorf("%d: %q", i, got)
		}
	}
	if _, ok := Write(api.Graph{Nodes: many[:24]}); !ok {
		t.Error("24 nodes may be")
	}
	if _, ok := Write(api.Graph{Nodes: []api.Node{{Name: "a", Version: "1", Needs: names[:24]}}}); !ok {
		t.Error("24 needs may be")
	}
}

// TestAgain: a lock without a breach comes to its own graph, whatever else would be better; another one is stale.
func TestAgain(t *testing.T) {
	locked, better := 0, 0
	for seed := range 200 {
		d := testkit.New(seed)
		x := testkit.Recipe(d, 1+seed%5)
		q := testkit.Request(d, x)
		if testkit.Choices(x) > 5000 {
			continue
		}
		best, _ := descent.Best(x, q, 1<<16, 1<<20)
		for _, g := range testkit.Graphs(x, q, testkit.AllRules, false) {
			written, ok := Write(g)
			if !ok {
				t.Fatal(seed, testkit.Text(g))
			}
			again, b, err := Again(x, q, written)
			if err != api.OK || b != (api.Breach{}) || !graph.Same(again, g) {
				t.Fatal(seed, testkit.Text(g), b, err)
			}
			locked++
			if !graph.Same(g, best.Graph) {
				better++
			}
			if len(g.Nodes) > 0 {
				g.Nodes[0].Version = "77"
				written, _ := Write(g)
				if again, b, err := Again(x, q, written); err != api.ErrStale || b != (api.Breach{Code: api.BreachVersion, Name: g.Nodes[0].Name}) || len(again.Nodes) != 0 {
					t.Fatal(seed, b, err)
				}
			}
		}
	}
	if locked < 100 || better < 50 {
		t.Error("too few were tried", locked, better)
	}
}

func TestErrorsOfAgain(t *testing.T) {
	x := api.Recipe{Packages: []api.Package{{Name: "a", Releases: []api.Release{{Version: "1"}}}}}
	q := api.Request{Roots: []api.Root{{Spec: api.Spec{Name: "a", Spans: testkit.All()}}}}
	clash := api.Recipe{Packages: []api.Package{x.Packages[0], {Name: "b", Releases: x.Packages[0].Releases, Provides: []string{"a"}}}}
	for i, c := range []struct {
		x      api.Recipe
		q      api.Request
		text   string
		breach api.Breach
		err    api.Errno
	}{
		{x, api.Request{}, "", api.Breach{}, api.ErrForm},
		{api.Recipe{}, q, "lock 1\n", api.Breach{}, api.ErrForm},
		{clash, q, "lock 1\nnode a 1\n", api.Breach{}, api.ErrForm},
		{x, q, "", api.Breach{}, api.ErrParse},
		{x, q, "lock 1\nnode a 1", api.Breach{}, api.ErrParse},
		{x, q, "lock 1\n", api.Breach{Code: api.BreachRoot, Name: "a"}, api.ErrStale},
		{x, q, "lock 1\nnode a 1\n  needs a\n", api.Breach{Code: api.BreachNeeds, Name: "a"}, api.ErrStale},
		{x, q, "lock 1\nnode z 1\n", api.Breach{Code: api.BreachName, Name: "z"}, api.ErrStale},
	} {
		g, b, err := Again(c.x, c.q, c.text)
		if err != c.err || b != c.breach || len(g.Nodes) != 0 {
			t.Error(i, g, b, err)
		}
	}
	if g, b, err := Again(x, q, "lock 1\nnode a 1\n"); err != api.OK || b != (api.Breach{}) || len(g.Nodes) != 1 {
		t.Error(g, b, err)
	}
}

// TestThereAndBack throws lines: what is a lock is written as it stood, and what is none has a first wrong line.
func TestThereAndBack(t *testing.T) {
	lines := []string{"node a 1\n", "node b 1 x=on\n", "node c 2.rc y=1 x=1\n", "  needs a\n", "  needs b\n", "  needs c\n", "node c 1\n", "node d 1 x\n", " \n", "node e 1"}
	locks := 0
	for seed := range 3000 {
		d := testkit.New(seed)
		var b strings.Builder
		b.WriteString("lock 1\n")
		for range d.Roll(6) {
			b.WriteString(lines[d.Roll(len(lines)-d.Roll(4))])
		}
		g, where, err := Parse(b.String())
		if err == api.OK {
			locks++
			if again, ok := Write(g); !ok || again != b.String() || where != (api.Where{}) {
				t.Fatalf("%q", b.String())
			}
			continue
		}
		// The lines ahead of the one that is told are those of a lock.
		ahead := strings.Join(strings.SplitAfter(b.String(), "\n")[:where.Line-1], "")
		if ahead != "" && !strings.HasSuffix(ahead, "\n") {
			ahead += "\n"
		}
		if _, _, err := Parse(ahead); err != api.OK || !reflect.DeepEqual(g, api.Graph{}) {
			t.Fatalf("%q: %v", b.String(), where)
		}
	}
	if locks < 300 {
		t.Error("too few were locks", locks)
	}
}
