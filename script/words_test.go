package script

import (
	"slices"
	"strings"
	"testing"
)

// TestP26_1Words: blanks ahead, between and behind, and nothing else that could be one.
func TestP26_1Words(t *testing.T) {
	for line, want := range map[string][]string{
		"":                    nil,
		" ":                   nil,
		"     ":               nil,
		"a":                   {"a"},
		" a":                  {"a"},
		"a ":                  {"a"},
		"  a  ":               {"a"},
		"a b":                 {"a", "b"},
		"a  b c":              {"a", "b", "c"},
		"   sys  fork   0   ": {"sys", "fork", "0"},
		"a\tb":                {"a\tb"},
		"\t":                  {"\t"},
		"a\nb c":              {"a\nb", "c"},
		"\n":                  {"\n"},
		"a\r":                 {"a\r"},
		"a\u00a0b\u2003c":     {"a\u00a0b\u2003c"},
		"β ä":                 {"β", "ä"},
		"\xff \xce\xb2\xce x": {"\xff", "\xce\xb2\xce", "x"},
		"\x00 \x00":           {"\x00", "\x00"},
		"�":                   {"�"},
		"a;b ;":               {"a;b", ";"},
		"'' \"a b\"":          {"''", "\"a", "b\""},
	} {
		if got := Words(line); !slices.Equal(got, want) {
			t.Errorf("%q: %q, not %q", line, got, want)
		}
	}
}

// TestP26_1WordsAgain: words joined by any many blanks are cut as they were.
func TestP26_1WordsAgain(t *testing.T) {
	all := []string{"a", "β", "\xff", "\t", "load", "0", "x;y", "\n"}
	for seed := range uint32(200) {
		chance := chances(seed)
		var want []string
		line := strings.Repeat(" ", chance(3))
		for range chance(9) {
			w := all[chance(len(all))]
			want = append(want, w)
			line += w + strings.Repeat(" ", 1+chance(3))
		}
		if got := Words(line); !slices.Equal(got, want) {
			t.Errorf("%q: %q, not %q", line, got, want)
		}
	}
}

// TestP3Words: what was answered is the caller's.
func TestP3Words(t *testing.T) {
	line := "a b c"
	l, other := Words(line), Words(line)
	l = l[:cap(l)]
	for n := range l {
		l[n] = "x"
	}
	if !slices.Equal(other, []string{"a", "b", "c"}) || !slices.Equal(Words(line), other) {
		t.Error(other)
	}
}
