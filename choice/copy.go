package choice

import (
	"slices"

	"cooper/api"
)

// each is a row of what a function makes of each of another row.
func each[T any](l []T, of func(T) T) []T {
	var out []T
	for _, x := range l {
		out = append(out, of(x))
	}
	return out
}

func copyRecipe(x api.Recipe) api.Recipe {
	return api.Recipe{Packages: each(x.Packages, copyPackage), Prefers: each(x.Prefers, copyPrefer)}
}

func copyRequest(q api.Request) api.Request {
	return api.Request{Roots: each(q.Roots, func(r api.Root) api.Root {
		r.Spec = copySpec(r.Spec)
		return r
	})}
}

func copyPackage(p api.Package) api.Package {
	p.Releases = slices.Clone(p.Releases)
	p.Variants = each(p.Variants, copyVariant)
	p.Provides = slices.Clone(p.Provides)
	p.Depends = each(p.Depends, copyDepend)
	p.Conflicts = each(p.Conflicts, copyConflict)
	p.Files = slices.Clone(p.Files)
	return p
}

func copyVariant(v api.Variant) api.Variant {
	v.Values = slices.Clone(v.Values)
	return v
}

func copyDepend(d api.Depend) api.Depend {
	d.On, d.When = copySpec(d.On), copySpec(d.When)
	return d
}

func copyConflict(c api.Conflict) api.Conflict {
	c.When, c.With = copySpec(c.When), copySpec(c.With)
	return c
}

func copyPrefer(p api.Prefer) api.Prefer {
	p.Names = slices.Clone(p.Names)
	return p
}

func copySpec(s api.Spec) api.Spec {
	s.Spans, s.Settings = slices.Clone(s.Spans), slices.Clone(s.Settings)
	return s
}
