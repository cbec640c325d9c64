package print

import (
	"slices"

	"cooper/api"
)

// Same tells whether two recipes are the same, but for the lines.
func Same(a, b api.Recipe) bool {
	return slices.EqualFunc(a.Packages, b.Packages, samePackage) && slices.EqualFunc(a.Prefers, b.Prefers, samePrefer)
}

// SameSpec tells whether two wishes are the same.
func SameSpec(a, b api.Spec) bool {
	return a.Name == b.Name && slices.Equal(a.Spans, b.Spans) && slices.Equal(a.Settings, b.Settings)
}

func samePackage(a, b api.Package) bool {
	return a.Name == b.Name &&
		slices.Equal(a.Releases, b.Releases) &&
		slices.EqualFunc(a.Variants, b.Variants, sameVariant) &&
		slices.Equal(a.Provides, b.Provides) &&
		slices.EqualFunc(a.Depends, b.Depends, sameDepend) &&
		slices.EqualFunc(a.Conflicts, b.Conflicts, sameConflict) &&
		slices.Equal(a.Files, b.Files)
}

func sameVariant(a, b api.Variant) bool {
	return a.Name == b.Name && slices.Equal(a.Values, b.Values)
}

func sameDepend(a, b api.Depend) bool {
	return SameSpec(a.On, b.On) && SameSpec(a.When, b.When)
}

func sameConflict(a, b api.Conflict) bool {
	return SameSpec(a.When, b.When) && SameSpec(a.With, b.With)
}

func samePrefer(a, b api.Prefer) bool {
	return a.Virtual == b.Virtual && slices.Equal(a.Names, b.Names)
}
