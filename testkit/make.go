package testkit

import "cooper/api"

// Set is a setting.
func Set(name, value string) api.Setting { return api.Setting{Name: name, Value: value} }

// Wish is a wish of a name, of all versions.
func Wish(name string, settings ...api.Setting) api.Spec {
	return api.Spec{Name: name, Spans: All(), Settings: settings}
}

// Ask is a request of some wishes, in lines from 1 on.
func Ask(wishes ...api.Spec) api.Request {
	var q api.Request
	for i, s := range wishes {
		q.Roots = append(q.Roots, api.Root{Spec: s, Line: 1 + i})
	}
	return q
}

// AskFor is a request of some names.
func AskFor(names ...string) api.Request {
	var wishes []api.Spec
	for _, name := range names {
		wishes = append(wishes, Wish(name))
	}
	return Ask(wishes...)
}

// Node is a node without settings.
func Node(name, version string, needs ...string) api.Node {
	return api.Node{Name: name, Version: version, Needs: needs}
}
