package store

import (
	"slices"
	"strings"

	"cooper/api"
	"cooper/check"
	"cooper/graph"
	"cooper/needs"
)

// owned is a file, and the place of the node that it is of.
type owned struct {
	file string
	node int
}

// Environment are the links of a graph.
func Environment(x api.Recipe, q api.Request, g api.Graph) ([]api.Link, string, bool) {
	files := filesOf(x, g, reached(x, q, g))
	for i := 1; i < len(files); i++ {
		if files[i].file == files[i-1].file {
			return nil, files[i].file, false
		}
	}
	derivations, ok := Lower(g)
	if !ok {
		return nil, "", false
	}
	var out []api.Link
	for _, f := range files {
		of := func(d api.Derivation) bool { return d.Name == g.Nodes[f.node].Name }
		out = append(out, api.Link{File: f.file, Path: derivations[slices.IndexFunc(derivations, of)].Path})
	}
	return out, "", true
}

// filesOf are the files of some nodes' packages, of each node each once, by rising files.
func filesOf(x api.Recipe, g api.Graph, nodes []int) []owned {
	var out []owned
	for _, i := range nodes {
		p := check.Find(x, g.Nodes[i].Name)
		if p < 0 {
			continue
		}
		for _, file := range slices.Compact(slices.Sorted(slices.Values(x.Packages[p].Files))) {
			out = append(out, owned{file: file, node: i})
		}
	}
	slices.SortStableFunc(out, func(a, b owned) int { return strings.Compare(a.file, b.file) })
	return out
}

// reached are the places of the nodes that are roots, or to which a way leads from one.
func reached(x api.Recipe, q api.Request, g api.Graph) []int {
	var out []int
	seen := make([]bool, len(g.Nodes))
	see := func(i int) {
		if i >= 0 && !seen[i] {
			seen[i] = true
			out = append(out, i)
		}
	}
	for i, n := range g.Nodes {
		if isRoot(x, q, n.Name) {
			see(i)
		}
	}
	for k := 0; k < len(out); k++ {
		for _, name := range g.Nodes[out[k]].Needs {
			see(graph.Find(g, name))
		}
	}
	return out
}

// isRoot tells whether a root names the package of a name, or a virtual name that it provides.
func isRoot(x api.Recipe, q api.Request, name string) bool {
	p := check.Find(x, name)
	named := func(r api.Root) bool { return slices.Contains(needs.Targets(x, r.Spec.Name), p) }
	return p >= 0 && slices.ContainsFunc(q.Roots, named)
}
