// Package testkit has what the tests of several layers share: small recipes that are thrown by dice, and all graphs of them, found by trying. The program itself doesn't use it.
package testkit

import (
	"slices"
	"strconv"

	"cooper/api"
)

// Dice throws numbers, the same row for the same start.
type Dice struct{ state uint64 }

// New is a dice of a start.
func New(start int) *Dice { return &Dice{state: uint64(start)*2862933555777941757 + 3037000493} }

// Roll is a number from 0 on, below n.
func (d *Dice) Roll(n int) int {
	d.state = d.state*6364136223846793005 + 1442695040888963407
	return int(d.state>>33) % n
}

// Once tells whether one throw of n succeeds.
func (d *Dice) Once(n int) bool { return d.Roll(n) == 0 }

// All are all versions.
func All() []api.Span { return []api.Span{{}} }

// Always is the condition that always holds.
func Always() api.Spec { return api.Spec{Spans: All()} }

// Recipe is a well made recipe of so many packages, up to 8, named a, b, .. .
func Recipe(d *Dice, packages int) api.Recipe {
	var x api.Recipe
	for i := range packages {
		p := api.Package{Name: "abcdefgh"[i : i+1]}
		versions := []string{"1", "2", "3", "2.rc"}
		for _, k := range d.some(len(versions), 1+d.Roll(3)) {
			p.Releases = append(p.Releases, api.Release{Version: versions[k], Old: d.Once(4)})
		}
		names := []string{"x", "y"}
		for _, k := range d.some(2, d.Roll(5)/2) {
			p.Variants = append(p.Variants, api.Variant{Name: names[k], Values: []string{"on", "off", "1"}[:2+d.Roll(2)]})
		}
		virtual := []string{"v", "w"}
		for _, k := range d.some(2, max(0, d.Roll(4)-1)) {
			p.Provides = append(p.Provides, virtual[k])
		}
		for _, k := range d.some(3, d.Roll(3)) {
			p.Files = append(p.Files, "f"+strconv.Itoa(k)+p.Name)
		}
		x.Packages = append(x.Packages, p)
	}
	for i := range x.Packages {
		d.relate(&x, i)
	}
	d.prefer(&x)
	number(&x)
	return x
}

// Request is a well made request over a recipe, of some roots.
func Request(d *Dice, x api.Recipe) api.Request {
	var q api.Request
	for i := range 1 + d.Roll(3) {
		q.Roots = append(q.Roots, api.Root{Spec: d.wish(x), Line: i + 1})
	}
	return q
}

// some are n different numbers below the first one, in no order.
func (d *Dice) some(below, n int) []int {
	var out []int
	for len(out) < min(n, below) {
		if k := d.Roll(below); !slices.Contains(out, k) {
			out = append(out, k)
		}
	}
	return out
}

func (d *Dice) relate(x *api.Recipe, i int) {
	p := &x.Packages[i]
	for range d.Roll(4) {
		p.Depends = append(p.Depends, api.Depend{On: d.wish(*x), When: d.condition(*p)})
	}
	for range max(0, d.Roll(4)-2) {
		c := api.Conflict{When: d.condition(*p)}
		if !d.Once(5) {
			t := x.Packages[d.Roll(len(x.Packages))]
			c.With = d.condition(t)
			c.With.Name = t.Name
		}
		p.Conflicts = append(p.Conflicts, c)
	}
}

func (d *Dice) condition(p api.Package) api.Spec {
	s := Always()
	switch d.Roll(6) {
	case 0:
		s.Spans = []api.Span{{Lo: "2"}}
	case 1:
		s.Spans = []api.Span{{Hi: "2.rc"}}
	case 2:
		s.Spans = []api.Span{{Lo: "1", Hi: "1"}, {Lo: "3"}}
	}
	for _, v := range p.Variants {
		if d.Once(3) {
			s.Settings = append(s.Settings, api.Setting{Name: v.Name, Value: v.Values[d.Roll(len(v.Values))]})
		}
	}
	slices.SortFunc(s.Settings, func(a, b api.Setting) int {
		if a.Name < b.Name {
			return -1
		}
		return 1
	})
	return s
}

func (d *Dice) wish(x api.Recipe) api.Spec {
	names := virtualNames(x)
	if len(names) > 0 && d.Once(4) {
		return api.Spec{Name: names[d.Roll(len(names))], Spans: All()}
	}
	p := x.Packages[d.Roll(len(x.Packages))]
	s := d.condition(p)
	s.Name = p.Name
	return s
}

func (d *Dice) prefer(x *api.Recipe) {
	for _, name := range virtualNames(*x) {
		providers := Providers(*x, name)
		if d.Once(3) {
			continue
		}
		pr := api.Prefer{Virtual: name}
		for _, k := range d.some(len(providers), 1+d.Roll(len(providers))) {
			pr.Names = append(pr.Names, x.Packages[providers[k]].Name)
		}
		x.Prefers = append(x.Prefers, pr)
	}
}

// number gives lines to all that has one.
func number(x *api.Recipe) {
	line := 0
	next := func() int {
		line++
		return line
	}
	for i := range x.Packages {
		p := &x.Packages[i]
		p.Line = next()
		for k := range p.Depends {
			p.Depends[k].Line = next()
		}
		for k := range p.Conflicts {
			p.Conflicts[k].Line = next()
		}
	}
	for i := range x.Prefers {
		x.Prefers[i].Line = next()
	}
}

// Providers are the places of the packages that provide a name.
func Providers(x api.Recipe, name string) []int {
	var out []int
	for i, p := range x.Packages {
		if slices.Contains(p.Provides, name) {
			out = append(out, i)
		}
	}
	return out
}

func virtualNames(x api.Recipe) []string {
	var out []string
	for _, p := range x.Packages {
		out = append(out, p.Provides...)
	}
	slices.Sort(out)
	return slices.Compact(out)
}
