package lex

import (
	"math/rand"
	"slices"
	"strings"
	"testing"

	"cooper/api"
)

func same(a, b []api.Line) bool {
	return slices.EqualFunc(a, b, func(x, y api.Line) bool { return x.At == y.At && slices.Equal(x.Words, y.Words) })
}

func line(at int, words ...api.Word) api.Line { return api.Line{At: at, Words: words} }

func TestLines(t *testing.T) {
	for text, want := range map[string][]api.Line{
		"":                    nil,
		"\n\n \n# a\n":        nil,
		"a  bc # d":           {line(1, api.Word{Col: 1, Text: "a"}, api.Word{Col: 4, Text: "bc"})},
		"\n  a\n\nb#c d\n#\n": {line(2, api.Word{Col: 3, Text: "a"}), line(4, api.Word{Col: 1, Text: "b"})},
		"!~ ~\nx\n\n":         {line(1, api.Word{Col: 1, Text: "!~"}, api.Word{Col: 4, Text: "~"}), line(2, api.Word{Col: 1, Text: "x"})},
		"#a\nb":               {line(2, api.Word{Col: 1, Text: "b"})},
		"a # # b":             {line(1, api.Word{Col: 1, Text: "a"})},
	} {
		l, where, err := Lines(text)
		if !same(l, want) || where != (api.Where{}) || err != api.OK {
			t.Errorf("%q: %v %v %v", text, l, where, err)
		}
	}
}

func TestWrongTexts(t *testing.T) {
	words := strings.Repeat("w ", 40)
	lines := strings.Repeat("x\n\n", 2000)
	for _, c := range []struct {
		text  string
		where api.Where
		err   api.Errno
	}{
		{"\t", api.Where{Line: 1, Col: 1}, api.ErrForm},
		{"a\nb\r\n", api.Where{Line: 2, Col: 2}, api.ErrForm},
		{"a # \x7f", api.Where{Line: 1, Col: 5}, api.ErrForm},
		{"a\x00", api.Where{Line: 1, Col: 2}, api.ErrForm},
		{"é", api.Where{Line: 1, Col: 1}, api.ErrForm},
		{"\n\n ab\xff\n\x00", api.Where{Line: 3, Col: 4}, api.ErrForm},
		{words + "v", api.Where{Line: 1, Col: 81}, api.ErrLong},
		{"\n " + words + "  vv\x00", api.Where{Line: 2, Col: 84}, api.ErrLong},
		{words + "\x00 v", api.Where{Line: 1, Col: 81}, api.ErrForm},
		{lines + "  y z", api.Where{Line: 4001, Col: 3}, api.ErrLong},
		{lines + "\n\x01y", api.Where{Line: 4002, Col: 1}, api.ErrForm},
		{lines + "y\x01", api.Where{Line: 4001, Col: 1}, api.ErrLong},
		{strings.Repeat(" ", 65537), api.Where{}, api.ErrLong},
		{strings.Repeat("\x00", 65537), api.Where{}, api.ErrLong},
	} {
		l, where, err := Lines(c.text)
		if len(l) != 0 || where != c.where || err != c.err {
			t.Errorf("%.20q: %d lines %v %v, want %v %v", c.text, len(l), where, err, c.where, c.err)
		}
	}
}

func TestAtTheLimits(t *testing.T) {
	if l, _, err := Lines(strings.Repeat("w ", 40) + "#v v v"); err != api.OK || len(l) != 1 || len(l[0].Words) != 40 {
		t.Error("40 words may be", err)
	}
	if l, _, err := Lines(strings.Repeat("x\n", 2000) + "\n # y\n"); err != api.OK || len(l) != 2000 {
		t.Error("2000 lines may be", err)
	}
	if l, _, err := Lines(strings.Repeat("x", 65536)); err != api.OK || len(l) != 1 || len(l[0].Words[0].Text) != 65536 {
		t.Error("65536 bytes may be", err)
	}
}

func TestText(t *testing.T) {
	l := []api.Line{line(7, api.Word{Col: 5, Text: "a"}, api.Word{Text: "bc"}), line(0), line(0, api.Word{Text: "d"})}
	if got := Text(l); got != "a bc\n\nd\n" {
		t.Errorf("%q", got)
	}
	if Text(nil) != "" {
		t.Error("of no lines the text is empty")
	}
}

func TestThereAndBack(t *testing.T) {
	r := rand.New(rand.NewSource(5))
	const bytes = "ab~!  \n\n#"
	for range 2000 {
		text := make([]byte, r.Intn(60))
		for i := range text {
			text[i] = bytes[r.Intn(len(bytes))]
		}
		l, _, err := Lines(string(text))
		again, _, errAgain := Lines(Text(l))
		if err != api.OK || errAgain != api.OK || len(l) != len(again) {
			t.Fatalf("%q", text)
		}
		for i := range l {
			for k, w := range l[i].Words {
				if again[i].Words[k].Text != w.Text || len(again[i].Words) != len(l[i].Words) {
					t.Fatalf("%q", text)
				}
			}
		}
	}
}
