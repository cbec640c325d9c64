package recipe

import (
	"strings"

	"cooper/api"
	"cooper/spans"
	"cooper/variant"
)

// wrong is thrown where words are wrong: the byte of the line.
type wrong int

// reader takes words, one behind the other.
type reader struct {
	words []api.Word
	next  int
	end   int
}

func throw(w api.Word) { panic(wrong(w.Col)) }

func (r *reader) more() bool { return r.next < len(r.words) }

// done throws, if a word is left.
func (r *reader) done() {
	if r.more() {
		throw(r.words[r.next])
	}
}

// take takes the next word, that must be there.
func (r *reader) take() api.Word {
	if !r.more() {
		panic(wrong(r.end))
	}
	r.next++
	return r.words[r.next-1]
}

// takeOne takes a word that is as it may be.
func (r *reader) takeOne(may func(string) bool) string {
	w := r.take()
	if !may(w.Text) {
		throw(w)
	}
	return w.Text
}

// takeSome takes all words that are left, at least one.
func (r *reader) takeSome(may func(string) bool) []string {
	out := []string{r.takeOne(may)}
	for r.more() {
		out = append(out, r.takeOne(may))
	}
	return out
}

// takeWord takes the next word, if it is that one, and tells whether it was.
func (r *reader) takeWord(text string) bool {
	if !r.more() || r.words[r.next].Text != text {
		return false
	}
	r.next++
	return true
}

func (r *reader) wish() api.Spec {
	w := r.take()
	name, set, written := strings.Cut(w.Text, "@")
	if !variant.Name(name) {
		throw(w)
	}
	s := api.Spec{Name: name, Spans: allVersions()}
	if written {
		s.Spans = readSet(w, set)
	}
	s.Settings = r.settings()
	return s
}

func (r *reader) condition() api.Spec {
	s := api.Spec{Spans: allVersions()}
	if r.takeWord("*") {
		return s
	}
	w := r.take()
	set, written := strings.CutPrefix(w.Text, "@")
	if written {
		s.Spans = readSet(w, set)
	} else {
		r.next--
	}
	s.Settings = r.settings()
	if !written && len(s.Settings) == 0 {
		throw(w)
	}
	return s
}

// settings takes settings, as long as words have an equals sign.
func (r *reader) settings() []api.Setting {
	var out []api.Setting
	for r.more() && strings.Contains(r.words[r.next].Text, "=") {
		w := r.take()
		name, value, _ := strings.Cut(w.Text, "=")
		if !variant.Name(name) || !variant.Value(value) || len(out) > 0 && out[len(out)-1].Name >= name {
			throw(w)
		}
		out = append(out, api.Setting{Name: name, Value: value})
	}
	return out
}

// readSet is the set behind a word's at sign: not all versions, and not none.
func readSet(w api.Word, text string) []api.Span {
	set, ok := spans.Read(text)
	if !ok || len(set) == 0 || set[0] == (api.Span{}) {
		throw(w)
	}
	return set
}

func allVersions() []api.Span { return []api.Span{{}} }
