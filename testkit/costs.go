package testkit

import (
	"slices"

	"cooper/api"
	"cooper/version"
)

// Cost is what a graph of well made nodes costs.
func Cost(x api.Recipe, q api.Request, g api.Graph) api.Cost {
	var c api.Cost
	rootNames := []string{}
	needed := map[string]int{}
	virtual := func(name string) bool {
		return !slices.ContainsFunc(x.Packages, func(p api.Package) bool { return p.Name == name })
	}
	for _, r := range q.Roots {
		rootNames = append(rootNames, r.Spec.Name)
		if virtual(r.Spec.Name) {
			needed[r.Spec.Name]++
		}
	}
	for _, n := range g.Nodes {
		p := x.Packages[slices.IndexFunc(x.Packages, func(p api.Package) bool { return p.Name == n.Name })]
		root := slices.Contains(rootNames, p.Name)
		for _, name := range p.Provides {
			root = root || virtual(name) && slices.Contains(rootNames, name)
		}
		for _, r := range p.Releases {
			switch {
			case r.Version == n.Version && r.Old:
				c[0]++
			case version.Compare(r.Version, n.Version) > 0 && root:
				c[1]++
			case version.Compare(r.Version, n.Version) > 0:
				c[4]++
			}
		}
		for i, s := range n.Settings {
			if p.Variants[i].Values[0] != s.Value {
				c[2]++
			}
		}
		for _, d := range p.Depends {
			if Holds(n, d.When) && virtual(d.On.Name) {
				needed[d.On.Name]++
			}
		}
	}
	for name := range needed {
		c[3] += preferred(x, g, name)
	}
	c[5] = len(g.Nodes)
	return c
}

func preferred(x api.Recipe, g api.Graph, name string) int {
	sum := 0
	for _, k := range Providers(x, name) {
		if !slices.ContainsFunc(g.Nodes, func(n api.Node) bool { return n.Name == x.Packages[k].Name }) {
			continue
		}
		for _, pr := range x.Prefers {
			if pr.Virtual == name {
				rank := slices.Index(pr.Names, x.Packages[k].Name)
				if rank < 0 {
					rank = len(pr.Names)
				}
				sum += rank
			}
		}
	}
	return sum
}
