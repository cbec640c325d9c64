// Package version is layer 1: versions, and how they stand to each other.
package version

import (
	"cmp"
	"iter"
	"slices"
	"strings"

	"cooper/api"
)

// What may stand at a place of a version, in the row in which it stands.
const (
	wordRank = iota
	endRank
	numberRank
)

// May tells whether a text is a version.
func May(s string) bool {
	if len(s) == 0 || len(s) > api.MaxVersion {
		return false
	}
	n := 0
	for part := range parts(s) {
		n++
		if !isWord(part) && !isNumber(part) {
			return false
		}
	}
	return n <= api.MaxParts
}

// Compare is how two texts stand to each other.
func Compare(a, b string) int {
	mayA, mayB := May(a), May(b)
	switch {
	case !mayA && !mayB:
		return 0
	case !mayA:
		return -1
	case !mayB:
		return 1
	}
	return compareParts(Parts(a), Parts(b))
}

// Parts are a version's parts.
func Parts(s string) []string {
	if !May(s) {
		return nil
	}
	return slices.Collect(parts(s))
}

// Newest are texts, the one that stands last first.
func Newest(l []string) []string {
	out := slices.Clone(l)
	slices.SortStableFunc(out, func(a, b string) int { return Compare(b, a) })
	return out
}

// parts hands out what stands between the full stops of a text.
func parts(s string) iter.Seq[string] {
	return func(yield func(string) bool) {
		for {
			part, rest, more := strings.Cut(s, ".")
			if !yield(part) || !more {
				return
			}
			s = rest
		}
	}
}

func isWord(part string) bool {
	for i := range len(part) {
		if part[i] < 'a' || part[i] > 'z' {
			return false
		}
	}
	return part != ""
}

func isNumber(part string) bool {
	if part == "" || len(part) > 1 && part[0] == '0' {
		return false
	}
	n := 0
	for i := range len(part) {
		if part[i] < '0' || part[i] > '9' {
			return false
		}
		n = n*10 + int(part[i]-'0')
		if n > api.MaxNumber {
			return false
		}
	}
	return true
}

func compareParts(a, b []string) int {
	for i := range max(len(a), len(b)) {
		if n := comparePlace(partAt(a, i), partAt(b, i)); n != 0 {
			return n
		}
	}
	return 0
}

// partAt is the part at a place, and nothing behind the end.
func partAt(l []string, i int) string {
	if i >= len(l) {
		return ""
	}
	return l[i]
}

func comparePlace(a, b string) int {
	r := rank(a)
	if n := cmp.Compare(r, rank(b)); n != 0 {
		return n
	}
	if r == numberRank {
		// Without noughts ahead the longer number is the greater one.
		if n := cmp.Compare(len(a), len(b)); n != 0 {
			return n
		}
	}
	return strings.Compare(a, b)
}

func rank(part string) int {
	switch {
	case part == "":
		return endRank
	case isWord(part):
		return wordRank
	}
	return numberRank
}
