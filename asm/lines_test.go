package asm

import (
	"slices"
	"strings"
	"testing"
	"unicode/utf8"
)

func TestP4_1Lines(t *testing.T) {
	for text, want := range map[string][]string{
		"":                         {""},
		"\n":                       {"", ""},
		"\n\n\n":                   {"", "", "", ""},
		"a":                        {"a"},
		"a\n":                      {"a", ""},
		"\na":                      {"", "a"},
		"a\nb":                     {"a", "b"},
		" a\t\n\t b ":              {"a", "b"},
		" \t ":                     {""},
		";":                        {""},
		"; a":                      {""},
		"a;b":                      {"a"},
		"a ;b;c\n;\n d ; e":        {"a", "", "d"},
		"a \t b":                   {"a \t b"},
		"a;\n;b":                   {"a", ""},
		"li r1 ';'":                {"li r1 '"},
		"a\r\nb\r":                 {"a\r", "b\r"},
		"\ra":                      {"\ra"},
		"\v a \f":                  {"\v a \f"},
		"\u00a0a\u00a0":            {"\u00a0a\u00a0"},
		"\u3000a\u2028b\u0085":     {"\u3000a\u2028b\u0085"},
		"αβ ; γ\nδ":                {"αβ", "δ"},
		" ä \n":                    {"ä", ""},
		"\xff":                     {"\xff"},
		" \xff\t;\xff\n\xc3\n\xc3": {"\xff", "\xc3", "\xc3"},
		"\xce;\xb1":                {"\xce"},
		"\xce\n\xb1":               {"\xce", "\xb1"},
		"\x00 \n \x00":             {"\x00", "\x00"},
		"\xef\xbf\xbd":             {"\xef\xbf\xbd"},
	} {
		if l := Lines(text); !slices.Equal(l, want) {
			t.Errorf("%q: %q, not %q", text, l, want)
		}
	}
}

// plainLines are Lines, byte by byte from behind.
func plainLines(text string) []string {
	l := strings.Split(text, "\n")
	for n, s := range l {
		if at := strings.IndexByte(s, 59); at >= 0 {
			s = s[:at]
		}
		for s != "" && (s[len(s)-1] == 32 || s[len(s)-1] == 9) {
			s = s[:len(s)-1]
		}
		for s != "" && (s[0] == 32 || s[0] == 9) {
			s = s[1:]
		}
		l[n] = s
	}
	return l
}

// allTexts goes through all texts of up to n pieces.
func allTexts(pieces []string, n int, f func(text string)) {
	var grow func(text string, left int)
	grow = func(text string, left int) {
		f(text)
		if left == 0 {
			return
		}
		for _, p := range pieces {
			grow(text+p, left-1)
		}
	}
	grow("", n)
}

func TestP4_1LinesAllShort(t *testing.T) {
	allTexts([]string{"\n", ";", " ", "\t", "a", "β", "\xce", ":", "\r"}, 5, func(text string) {
		if l := Lines(text); !slices.Equal(l, plainLines(text)) {
			t.Fatalf("%q: %q", text, l)
		}
	})
}

// TestP4_1LinesBlanks: of all runes none but 32 and 9 is taken off.
func TestP4_1LinesBlanks(t *testing.T) {
	for r := rune(0); r <= utf8.MaxRune; r++ {
		if !utf8.ValidRune(r) || r == '\n' || r == ';' {
			continue
		}
		s := string(r)
		want := s + "a" + s
		if r == 32 || r == 9 {
			want = "a"
		}
		if l := Lines(s + "a" + s); len(l) != 1 || l[0] != want {
			t.Fatalf("%x: %q", r, l)
		}
	}
}

func TestP4_1LinesLong(t *testing.T) {
	if l := Lines(strings.Repeat("\n", 100000)); len(l) != 100001 || l[0] != "" || l[100000] != "" {
		t.Error(len(l))
	}
	if l := Lines(strings.Repeat(" ", 100000) + "a" + strings.Repeat("\t", 100000)); !slices.Equal(l, []string{"a"}) {
		t.Error(len(l))
	}
}

func TestP3LinesAreTheCallers(t *testing.T) {
	a, b := Lines("a\nb"), Lines("a\nb")
	a[0], a[1] = "x", "y"
	if !slices.Equal(b, []string{"a", "b"}) {
		t.Error(b)
	}
}
