package store

import (
	"crypto/sha256"
	"encoding/base32"
	"encoding/hex"
	"reflect"
	"slices"
	"strings"
	"testing"

	"cooper/api"
	"cooper/descent"
	"cooper/graph"
	"cooper/testkit"
)

func text(n int) []byte {
	d := testkit.New(n)
	out := make([]byte, n)
	for i := range out {
		out[i] = byte(d.Roll(256))
	}
	return out
}

func TestSum(t *testing.T) {
	for want, b := range map[string]string{
		"e3b0c44298fc1c149afbf4c8996fb92427ae41e4649b934ca495991b7852b855": "",
		"ba7816bf8f01cfea414140de5dae2223b00361a396177a9cb410ff61f20015ad": "abc",
		"248d6a61d20638b8e5c026930c3e6039a33ce45964ff2167f6ecedd419db06c1": "abcdbcdecdefdefgefghfghighijhijkijkljklmklmnlmnomnopnopq",
		"cdc76e5c9914fb9281a1c7e284d73e67f1809a48a497200e046d39ccc7112cd0": strings.Repeat("a", 1000000),
	} {
		sum := Sum([]byte(b))
		if got := hex.EncodeToString(sum[:]); got != want {
			t.Errorf("%.10q: %s", b, got)
		}
	}
	for n := range 300 {
		b := text(n)
		if Sum(b) != sha256.Sum256(b) {
			t.Error("of", n, "bytes")
		}
	}
	if Sum(nil) != Sum([]byte{}) {
		t.Error("a nil text is an empty one")
	}
}

func TestSigns(t *testing.T) {
	for want, b := range map[string]string{"": "", "my": "f", "mzxq": "fo", "mzxw6": "foo", "mzxw6yq": "foob", "mzxw6ytb": "fooba", "mzxw6ytboi": "foobar", "77777777": "\xff\xff\xff\xff\xff"} {
		if got := Signs([]byte(b)); got != want {
			t.Errorf("%q: %q", b, got)
		}
	}
	for n := range 100 {
		if got := Signs(text(n)); got != strings.ToLower(base32.StdEncoding.WithPadding(base32.NoPadding).EncodeToString(text(n))) {
			t.Error(n, got)
		}
	}
}

func TestTextAndPath(t *testing.T) {
	d := api.Derivation{Name: "zlib", Version: "1.2", Settings: []api.Setting{testkit.Set("x", "on"), testkit.Set("long", "")}, Inputs: []string{"p:q", "r"}, Path: "plays no part"}
	if got := Text(d); got != "8:cooper-14:zlib3:1.21:21:x2:on4:long0:1:23:p:q1:r" {
		t.Error(got)
	}
	if got := Text(api.Derivation{}); got != "8:cooper-10:0:1:01:0" {
		t.Error(got)
	}
	sum := sha256.Sum256([]byte(Text(d)))
	want := strings.ToLower(base32.StdEncoding.WithPadding(base32.NoPadding).EncodeToString(sum[:])) + "-4-zlib-1.2"
	if got := Path(d); got != want {
		t.Error(got, want)
	}
	d.Path = ""
	if Path(d) != want {
		t.Error("its own path plays no part")
	}
}

// TestApart: derivations of which something is another have other writings.
func TestApart(t *testing.T) {
	pieces := []string{"", "a", "1", "1:", "1:a", "0:", "a1:a", "2"}
	seen := map[string]api.Derivation{}
	for seed := range 20000 {
		dice := testkit.New(seed)
		pick := func() string { return pieces[dice.Roll(len(pieces))] }
		d := api.Derivation{Name: pick(), Version: pick()}
		for range dice.Roll(3) {
			d.Settings = append(d.Settings, testkit.Set(pick(), pick()))
		}
		for range dice.Roll(3) {
			d.Inputs = append(d.Inputs, pick())
		}
		if other, ok := seen[Text(d)]; ok && !reflect.DeepEqual(other, d) {
			t.Fatal(d, other)
		}
		seen[Text(d)] = d
	}
	tail := func(d api.Derivation) string { return Path(d)[52:] }
	if tail(api.Derivation{Name: "a", Version: "1-a-1"}) == tail(api.Derivation{Name: "a-1-a", Version: "1"}) || tail(api.Derivation{Name: "a", Version: "1"}) != "-1-a-1" {
		t.Error("other names or versions have other paths, whatever their sums are")
	}
}

func TestLower(t *testing.T) {
	g := api.Graph{Nodes: []api.Node{testkit.Node("a", "1", "c", "b", "c"), {Name: "b", Version: "2", Settings: []api.Setting{testkit.Set("x", "on")}}, testkit.Node("c", "3", "b")}}
	l, ok := Lower(g)
	b := api.Derivation{Name: "b", Version: "2", Settings: []api.Setting{testkit.Set("x", "on")}}
	b.Path = Path(b)
	c := api.Derivation{Name: "c", Version: "3", Inputs: []string{b.Path}}
	c.Path = Path(c)
	a := api.Derivation{Name: "a", Version: "1", Inputs: []string{b.Path, c.Path, c.Path}}
	slices.Sort(a.Inputs)
	a.Path = Path(a)
	if !ok || !reflect.DeepEqual(l, []api.Derivation{b, c, a}) || !Closed(l) {
		t.Error(l, ok)
	}
	l[0].Settings[0].Value = "changed"
	if g.Nodes[1].Settings[0].Value != "on" {
		t.Error("what is answered is new memory")
	}
	for i, g := range []api.Graph{
		{Nodes: []api.Node{testkit.Node("a", "1", "a")}}, {Nodes: []api.Node{testkit.Node("a", "1", "b"), testkit.Node("b", "1", "a")}}, {Nodes: []api.Node{testkit.Node("a", "1", "b")}}, {Nodes: []api.Node{testkit.Node("a", "1"), testkit.Node("a", "2")}},
	} {
		if l, ok := Lower(g); ok || len(l) != 0 {
			t.Error(i, l)
		}
	}
	if l, ok := Lower(api.Graph{}); !ok || len(l) != 0 {
		t.Error("an empty graph is lowered to none")
	}
}

func TestClosed(t *testing.T) {
	whole, _ := Lower(api.Graph{Nodes: []api.Node{testkit.Node("a", "1", "b"), testkit.Node("b", "2")}})
	if !Closed(whole) || !Closed(nil) || !Closed(whole[:1]) {
		t.Error("closed")
	}
	wrong := slices.Clone(whole)
	wrong[1].Path = wrong[1].Path[1:]
	for i, l := range [][]api.Derivation{whole[1:], {whole[1], whole[0]}, {whole[0], whole[0]}, {whole[0], whole[1], whole[1]}, wrong, {{}}} {
		if Closed(l) {
			t.Error(i)
		}
	}
	itself := api.Derivation{Name: "a"}
	itself.Inputs = []string{Path(itself)}
	itself.Path = Path(itself)
	if Closed([]api.Derivation{itself}) {
		t.Error("its input stands not ahead")
	}
}

// TestClosedForAll: what a graph is lowered to is closed, one derivation for each node; with another version of one, all that needs it gets another path.
func TestClosedForAll(t *testing.T) {
	tried := 0
	for seed := range 200 {
		d := testkit.New(seed)
		x := testkit.Recipe(d, 2+seed%5)
		best, _ := descent.Best(x, testkit.Request(d, x), 1<<16, 1<<20)
		g := best.Graph
		l, ok := Lower(g)
		if !ok || len(l) != len(g.Nodes) || !Closed(l) {
			t.Fatal(seed, l)
		}
		if len(g.Nodes) < 2 {
			continue
		}
		tried++
		k := d.Roll(len(g.Nodes))
		g.Nodes[k].Version += ".1"
		more, _ := Lower(g)
		for i, old := range l {
			n := g.Nodes[graph.Find(g, old.Name)]
			if reaches(g, n.Name, g.Nodes[k].Name) == (more[i].Path == old.Path) {
				t.Fatal(seed, old, more[i])
			}
		}
	}
	if tried < 30 {
		t.Error("too few were tried", tried)
	}
}

func reaches(g api.Graph, from, to string) bool {
	if from == to {
		return true
	}
	return slices.ContainsFunc(g.Nodes[graph.Find(g, from)].Needs, func(name string) bool { return reaches(g, name, to) })
}

func recipe() api.Recipe {
	one := []api.Release{{Version: "1"}}
	return api.Recipe{Packages: []api.Package{
		{Name: "a", Releases: one, Files: []string{"z", "bin/a", "z"}},
		{Name: "b", Releases: one, Files: []string{"m"}, Provides: []string{"v"}},
		{Name: "c", Releases: one, Files: []string{"z", "m"}},
		{Name: "d", Releases: one},
	}}
}

func TestEnvironment(t *testing.T) {
	g := api.Graph{Nodes: []api.Node{testkit.Node("a", "1", "b"), testkit.Node("b", "1"), testkit.Node("c", "1"), testkit.Node("z", "1")}}
	l, _ := Lower(g)
	path := func(name string) string {
		return l[slices.IndexFunc(l, func(d api.Derivation) bool { return d.Name == name })].Path
	}
	for i, c := range []struct {
		q     api.Request
		want  []api.Link
		clash string
		ok    bool
	}{
		{testkit.AskFor("a"), []api.Link{{File: "bin/a", Path: path("a")}, {File: "m", Path: path("b")}, {File: "z", Path: path("a")}}, "", true},
		{testkit.AskFor("v"), []api.Link{{File: "m", Path: path("b")}}, "", true},
		{testkit.AskFor("c"), []api.Link{{File: "m", Path: path("c")}, {File: "z", Path: path("c")}}, "", true},
		{testkit.AskFor("d", "z", "nothing"), nil, "", true},
		{testkit.AskFor(), nil, "", true},
		{testkit.AskFor("a", "c"), nil, "m", false},
		{testkit.AskFor("c", "v"), nil, "m", false},
	} {
		links, clash, ok := Environment(recipe(), c.q, g)
		if !slices.Equal(links, c.want) || clash != c.clash || ok != c.ok {
			t.Error(i, links, clash, ok)
		}
	}
	broken := api.Graph{Nodes: []api.Node{testkit.Node("a", "1", "b"), testkit.Node("b", "1", "a")}}
	if links, clash, ok := Environment(recipe(), testkit.AskFor("a"), broken); ok || clash != "" || len(links) != 0 {
		t.Error("a graph that can't be lowered", links, clash)
	}
	missing := api.Graph{Nodes: []api.Node{testkit.Node("a", "1", "b")}}
	if links, clash, ok := Environment(recipe(), testkit.AskFor("a"), missing); ok || clash != "" || len(links) != 0 {
		t.Error("a graph that can't be lowered", links, clash)
	}
	both := api.Graph{Nodes: []api.Node{testkit.Node("a", "1", "c"), testkit.Node("c", "1", "a")}}
	if links, clash, ok := Environment(recipe(), testkit.AskFor("a"), both); ok || clash != "z" || len(links) != 0 {
		t.Error("the clash is named first", links, clash)
	}
}
