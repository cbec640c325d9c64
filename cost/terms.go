package cost

import (
	"cooper/api"
	"cooper/check"
	"cooper/formula"
	"cooper/needs"
)

// releaseTerms are the ReleaseAtoms of what may be needed that cost something.
func (s *scale) releaseTerms(f *formula.Formula, weight func(p int, r api.Release) int) []api.Term {
	var out []api.Term
	for _, p := range f.Ground().Places() {
		for i, r := range s.recipe.Packages[p].Releases {
			if w := weight(p, r); w > 0 {
				out = append(out, api.Term{Literal: f.Number(api.Atom{Kind: api.ReleaseAtom, A: p, B: i}), Weight: w})
			}
		}
	}
	return out
}

// settingTerms are the ValueAtoms of all values but the usual ones.
func (s *scale) settingTerms(f *formula.Formula) []api.Term {
	var out []api.Term
	for _, p := range f.Ground().Places() {
		for k, v := range s.recipe.Packages[p].Variants {
			for i := 1; i < len(v.Values); i++ {
				out = append(out, api.Term{Literal: f.Number(api.Atom{Kind: api.ValueAtom, A: p, B: k, C: i}), Weight: 1})
			}
		}
	}
	return out
}

// nameTerms are atoms, new ones, that a name is needed and a package that provides it is there.
func (s *scale) nameTerms(f *formula.Formula) []api.Term {
	var out []api.Term
	table, builder := f.Ground().Table(), f.Ground().Builder()
	for n, name := range needs.Names(s.recipe, s.request) {
		need := f.Number(api.Atom{Kind: api.NeedAtom, A: n})
		for _, p := range check.Providers(s.recipe, name) {
			w := needs.Prefer(s.recipe, name, s.recipe.Packages[p].Name)
			if w <= 0 {
				continue
			}
			if both := table.Help(); both != 0 {
				builder.All(both, need, f.Number(api.Atom{Kind: api.NodeAtom, A: p}))
				out = append(out, api.Term{Literal: both, Weight: w})
			}
		}
	}
	return out
}

func (s *scale) nodeTerms(f *formula.Formula) []api.Term {
	var out []api.Term
	for _, p := range f.Ground().Places() {
		out = append(out, api.Term{Literal: f.Number(api.Atom{Kind: api.NodeAtom, A: p}), Weight: 1})
	}
	return out
}
