package testkit

import (
	"slices"

	"cooper/api"
	"cooper/spans"
)

// Rules tells which rules count: of a kind, of the package of a place (-1: of the request), by their places there.
type Rules func(kind uint8, place, index int) bool

// AllRules count.
func AllRules(uint8, int, int) bool { return true }

// Choices is how many ways there are to choose packages, releases and values of a recipe, whatever the rules say.
func Choices(x api.Recipe) int {
	n := 1
	for _, p := range x.Packages {
		n *= 1 + len(p.Releases)*len(settingsOf(p.Variants))
	}
	return n
}

// Graphs are all graphs of a request over a recipe that are right by the rules that count; with circles those too that go round, as long as each package is asked for by a root or a package.
func Graphs(x api.Recipe, q api.Request, counts Rules, circles bool) []api.Graph {
	t := &trial{recipe: x, request: q, counts: counts, circles: circles, nodes: make([]*api.Node, len(x.Packages))}
	t.may = mayBeNeeded(x, q)
	t.choose(0)
	return t.found
}

// trial tries all choices, package by package.
type trial struct {
	recipe  api.Recipe
	request api.Request
	counts  Rules
	circles bool
	may     []bool
	nodes   []*api.Node
	found   []api.Graph
}

func (t *trial) choose(i int) {
	if i == len(t.recipe.Packages) {
		if g, ok := t.graph(); ok {
			t.found = append(t.found, g)
		}
		return
	}
	p := t.recipe.Packages[i]
	t.nodes[i] = nil
	t.choose(i + 1)
	if !t.may[i] {
		return
	}
	for _, r := range p.Releases {
		for _, s := range settingsOf(p.Variants) {
			t.nodes[i] = &api.Node{Name: p.Name, Version: r.Version, Settings: s}
			t.choose(i + 1)
		}
	}
	t.nodes[i] = nil
}

// mayBeNeeded marks the packages to which a root leads, whatever conditions hold.
func mayBeNeeded(x api.Recipe, q api.Request) []bool {
	marks := make([]bool, len(x.Packages))
	var see func(name string)
	see = func(name string) {
		targets := Providers(x, name)
		if i := slices.IndexFunc(x.Packages, func(p api.Package) bool { return p.Name == name }); i >= 0 {
			targets = []int{i}
		}
		for _, k := range targets {
			if !marks[k] {
				marks[k] = true
				for _, d := range x.Packages[k].Depends {
					see(d.On.Name)
				}
			}
		}
	}
	for _, r := range q.Roots {
		see(r.Spec.Name)
	}
	return marks
}

// graph is what was chosen as a graph, if that is right.
func (t *trial) graph() (api.Graph, bool) {
	edges := make([][]bool, len(t.nodes))
	asked := make([]bool, len(t.nodes))
	needed := []string{}
	for i, r := range t.request.Roots {
		if t.counts(api.RootRule, -1, i) && !t.ask(r.Spec, asked, &needed) {
			return api.Graph{}, false
		}
	}
	roots := slices.Clone(asked)
	for p, n := range t.nodes {
		edges[p] = make([]bool, len(t.nodes))
		if n == nil {
			continue
		}
		for k, d := range t.recipe.Packages[p].Depends {
			if t.counts(api.DependRule, p, k) && Holds(*n, d.When) && !t.ask(d.On, edges[p], &needed) {
				return api.Graph{}, false
			}
		}
		if t.clashes(p) {
			return api.Graph{}, false
		}
	}
	if !t.provided(needed) || !t.reached(roots, edges) {
		return api.Graph{}, false
	}
	return t.told(edges), true
}

// ask marks what a wish leads to, and tells whether a package that it names is there as it says.
func (t *trial) ask(s api.Spec, marks []bool, needed *[]string) bool {
	i := slices.IndexFunc(t.recipe.Packages, func(p api.Package) bool { return p.Name == s.Name })
	if i >= 0 {
		marks[i] = true
		return t.nodes[i] != nil && Holds(*t.nodes[i], s)
	}
	*needed = append(*needed, s.Name)
	for _, k := range Providers(t.recipe, s.Name) {
		marks[k] = marks[k] || t.nodes[k] != nil
	}
	return true
}

func (t *trial) clashes(p int) bool {
	for k, c := range t.recipe.Packages[p].Conflicts {
		if !t.counts(api.ConflictRule, p, k) || !Holds(*t.nodes[p], c.When) {
			continue
		}
		if c.With.Name == "" {
			return true
		}
		for _, n := range t.nodes {
			if n != nil && n.Name == c.With.Name && Holds(*n, c.With) {
				return true
			}
		}
	}
	return false
}

func (t *trial) provided(needed []string) bool {
	for _, name := range needed {
		count := 0
		for _, k := range Providers(t.recipe, name) {
			if t.nodes[k] != nil {
				count++
			}
		}
		if count != 1 {
			return false
		}
	}
	return true
}

// reached tells whether no package is there for nothing, and none needs itself by a way round.
func (t *trial) reached(roots []bool, edges [][]bool) bool {
	paths := closure(edges)
	for i, n := range t.nodes {
		if n == nil {
			continue
		}
		if !t.circles && paths[i][i] {
			return false
		}
		asked := roots[i]
		for k := range t.nodes {
			asked = asked || edges[k][i]
		}
		if !asked {
			return false
		}
	}
	return true
}

// closure tells of each place to which others a way leads.
func closure(edges [][]bool) [][]bool {
	paths := make([][]bool, len(edges))
	for i := range edges {
		paths[i] = slices.Clone(edges[i])
	}
	for k := range paths {
		for i := range paths {
			for j := range paths {
				paths[i][j] = paths[i][j] || paths[i][k] && paths[k][j]
			}
		}
	}
	return paths
}

func (t *trial) told(edges [][]bool) api.Graph {
	var g api.Graph
	for i, n := range t.nodes {
		if n == nil {
			continue
		}
		node := *n
		node.Settings = slices.Clone(n.Settings)
		for k, other := range t.nodes {
			if edges[i][k] && other != nil {
				node.Needs = append(node.Needs, other.Name)
			}
		}
		slices.Sort(node.Needs)
		g.Nodes = append(g.Nodes, node)
	}
	slices.SortFunc(g.Nodes, func(a, b api.Node) int {
		if a.Name < b.Name {
			return -1
		}
		return 1
	})
	return g
}

// Holds tells whether a node is as a wish or a condition says.
func Holds(n api.Node, s api.Spec) bool {
	for _, x := range s.Settings {
		if !slices.Contains(n.Settings, x) {
			return false
		}
	}
	return spans.Has(s.Spans, n.Version)
}

func settingsOf(l []api.Variant) [][]api.Setting {
	out := [][]api.Setting{nil}
	for _, v := range l {
		var more [][]api.Setting
		for _, s := range out {
			for _, value := range v.Values {
				more = append(more, append(slices.Clone(s), api.Setting{Name: v.Name, Value: value}))
			}
		}
		out = more
	}
	return out
}

// Text tells a graph in one line, so that graphs may be compared.
func Text(g api.Graph) string {
	text := ""
	for _, n := range g.Nodes {
		text += n.Name + "@" + n.Version
		for _, s := range n.Settings {
			text += " " + s.Name + "=" + s.Value
		}
		for _, need := range n.Needs {
			text += " >" + need
		}
		text += "; "
	}
	return text
}
