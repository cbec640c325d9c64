package graph

import (
	"slices"

	"cooper/api"
	"cooper/check"
	"cooper/cost"
	"cooper/needs"
	"cooper/variant"
)

// view is a graph of a request over a recipe, as it is looked through.
type view struct {
	recipe  api.Recipe
	request api.Request
	nodes   []api.Node
	targets [][]int // of each node the places of those that it needs
}

// eachNode looks for the first node of which it is told that something is wrong with it.
func (v *view) eachNode(code uint8, wrong func(i int) bool) func() api.Breach {
	return func() api.Breach {
		for i, n := range v.nodes {
			if wrong(i) {
				return api.Breach{Code: code, Name: n.Name}
			}
		}
		return api.Breach{}
	}
}

// pack is the package of a node.
func (v *view) pack(i int) api.Package {
	p := check.Find(v.recipe, v.nodes[i].Name)
	if p < 0 {
		return api.Package{}
	}
	return v.recipe.Packages[p]
}

// met tells whether there is a node of a wish's name that is as it says.
func (v *view) met(s api.Spec) bool {
	i := Find(api.Graph{Nodes: v.nodes}, s.Name)
	return i >= 0 && cost.Holds(v.nodes[i], s)
}

// active are the wishes of the depends of a node whose conditions hold.
func (v *view) active(i int) []api.Spec {
	var out []api.Spec
	for _, d := range v.pack(i).Depends {
		if cost.Holds(v.nodes[i], d.When) {
			out = append(out, d.On)
		}
	}
	return out
}

func (v *view) wrongName(i int) bool {
	name := v.nodes[i].Name
	return check.Find(v.recipe, name) < 0 || i > 0 && v.nodes[i-1].Name >= name
}

func (v *view) wrongVersion(i int) bool {
	return needs.Rank(v.pack(i), v.nodes[i].Version) < 0
}

func (v *view) wrongSettings(i int) bool {
	return !variant.Legal(v.pack(i).Variants, v.nodes[i].Settings)
}

func (v *view) roots() api.Breach {
	for _, r := range v.request.Roots {
		if v.unmet(r.Spec) {
			return api.Breach{Code: api.BreachRoot, Name: r.Spec.Name}
		}
	}
	return api.Breach{}
}

// unmet tells whether a wish names a package, and isn't met.
func (v *view) unmet(s api.Spec) bool {
	return check.Find(v.recipe, s.Name) >= 0 && !v.met(s)
}

func (v *view) wrongDepend(i int) bool {
	return slices.ContainsFunc(v.active(i), v.unmet)
}

func (v *view) virtualNames() api.Breach {
	var named []string
	for _, r := range v.request.Roots {
		named = append(named, r.Spec.Name)
	}
	for i := range v.nodes {
		for _, s := range v.active(i) {
			named = append(named, s.Name)
		}
	}
	for _, name := range needs.Names(v.recipe, v.request) {
		if slices.Contains(named, name) && v.provide(name) != 1 {
			return api.Breach{Code: api.BreachVirtual, Name: name}
		}
	}
	return api.Breach{}
}

// provide is how many nodes provide a name.
func (v *view) provide(name string) int {
	count := 0
	for i := range v.nodes {
		if slices.Contains(v.pack(i).Provides, name) {
			count++
		}
	}
	return count
}

func (v *view) inConflict(i int) bool {
	for _, c := range v.pack(i).Conflicts {
		if cost.Holds(v.nodes[i], c.When) && (c.With.Name == "" || v.met(c.With)) {
			return true
		}
	}
	return false
}

func (v *view) wrongNeeds(i int) bool {
	var names []string
	for _, s := range v.active(i) {
		for _, t := range needs.Targets(v.recipe, s.Name) {
			name := v.recipe.Packages[t].Name
			if Find(api.Graph{Nodes: v.nodes}, name) >= 0 {
				names = append(names, name)
			}
		}
	}
	slices.Sort(names)
	return !slices.Equal(v.nodes[i].Needs, slices.Compact(names))
}

func (v *view) onCircle(i int) bool {
	return slices.Contains(v.reached(v.targets[i]), i)
}

func (v *view) outOfReach(i int) bool {
	return !slices.Contains(v.reached(v.rootNodes()), i)
}

// rootNodes are the places of the nodes that are roots.
func (v *view) rootNodes() []int {
	var out []int
	for _, r := range v.request.Roots {
		for _, t := range needs.Targets(v.recipe, r.Spec.Name) {
			if i := Find(api.Graph{Nodes: v.nodes}, v.recipe.Packages[t].Name); i >= 0 {
				out = append(out, i)
			}
		}
	}
	return out
}

// reached are the places to which ways lead from some, and these.
func (v *view) reached(from []int) []int {
	var out []int
	seen := make([]bool, len(v.nodes))
	see := func(l []int) {
		for _, i := range l {
			if !seen[i] {
				seen[i] = true
				out = append(out, i)
			}
		}
	}
	see(from)
	for k := 0; k < len(out); k++ {
		see(v.targets[out[k]])
	}
	return out
}
