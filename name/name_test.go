package name

import (
	"regexp"
	"slices"
	"strings"
	"testing"
	"unicode/utf8"

	"embrasure/api"
)

// names are some of every depth, with labels of one letter and of MaxLabel, of one byte and of two.
func names() []string {
	return []string{
		"/", "/a", "/b", "/ab", "/α", "/0", "/a/a", "/a/b", "/a/ab", "/ab/a", "/α/ω", "/b/a", "/a/b/c", "/a/b/ς", "/a/a/a/a",
		"/abcdef/ωωωωωω", "/a/b/c/d/e", "/a/b/c/d/e/f", "/a/b/c/d/e/g", "/1/2/3/4/5/6",
		strings.Repeat("/ωωωωωω", 6), strings.Repeat("/zzzzzz", 6),
	}
}

// strangers are texts that are no names.
func strangers() []string {
	return []string{
		"", "a", "a/b", "//", "///", "/a/", "/a//b", "//a", " /", "/ ", "/ a", "/a ", "/a b", "/A", "/aB", "/é", "/ä", "/-", "/_", "/.", "/..", "\\a", "/a\\b",
		"/ΰ", "/ϊ", "/Ω", "/Α", "/`", "/{", "/:", "/a\n", "/a\x00", "/\x00", "/abcdefg", "/ωωωωωωω", "/a/abcdefg", "/a/a/a/a/a/a/a", "/a/a/a/a/a/a/", "/１",
		"/\xff", "/a\xff", "/\xce", "/a/\xce", "/\xb1", "/\xce\xb1\xce", "/\xc1\xa1", "/\ufffd", "\xff", "/α\xcf", "/α/\x80", "/\xed\xa0\x80",
		strings.Repeat("/a", 7), strings.Repeat("/a", 100000), "/" + strings.Repeat("a", 100000), strings.Repeat("/", 100000),
	}
}

func TestP2_1Label(t *testing.T) {
	for r := rune(0); r <= utf8.MaxRune; r++ {
		if !utf8.ValidRune(r) {
			continue
		}
		want := r >= 97 && r <= 122 || r >= 48 && r <= 57 || r >= 0x3b1 && r <= 0x3c9
		if Label(string(r)) != want || Label("a"+string(r)+"9") != want {
			t.Fatalf("%x", r)
		}
	}
	for _, s := range []string{"a", "z", "0", "9", "α", "ς", "ω", "abcdef", "012345", "αβγδεζ", "a0α9ωz", "ωωωωωω"} {
		if !Label(s) {
			t.Error(s)
		}
	}
	for _, s := range []string{"", "abcdefg", "ωωωωωωω", "A", "a b", "a/", "/", "/a", "-", "\xff", "a\xff", "\xce", "α\xcf", "\xc1\xa1", "\ufffd", "\x00", strings.Repeat("a", 100000)} {
		if Label(s) {
			t.Errorf("%q", s)
		}
	}
}

func TestP2_1Split(t *testing.T) {
	for s, want := range map[string][]string{
		"/": {}, "/a": {"a"}, "/a/β9": {"a", "β9"}, "/a/b/c/d/e/f": {"a", "b", "c", "d", "e", "f"}, "/ωωωωωω/abcdef": {"ωωωωωω", "abcdef"},
	} {
		if l, e := Split(s); e != api.OK || !slices.Equal(l, want) {
			t.Error(s, l, e)
		}
	}
	for _, s := range strangers() {
		if l, e := Split(s); e != api.ErrForm || len(l) != 0 {
			t.Errorf("%.40q: %q, %d", s, l, e)
		}
	}
}

// TestP2_1AllShort holds Split, Depth, Parent and Label against patterns, at all short texts of letters that come up.
func TestP2_1AllShort(t *testing.T) {
	form := regexp.MustCompile(`^(/|(/[a-z0-9α-ω]{1,6}){1,6})$`)
	label := regexp.MustCompile(`^[a-z0-9α-ω]{1,6}$`)
	texts := []string{""}
	for range 8 {
		var longer []string
		for _, s := range texts {
			want := utf8.ValidString(s) && form.MatchString(s)
			if _, e := Split(s); (e == api.OK) != want {
				t.Fatalf("Split %q: %d", s, e)
			}
			depth := 0
			if want && s != "/" {
				depth = strings.Count(s, "/")
			}
			if d := Depth(s); d != depth {
				t.Fatalf("Depth %q: %d", s, d)
			}
			if Label(s) != (utf8.ValidString(s) && label.MatchString(s)) {
				t.Fatalf("Label %q", s)
			}
			for _, p := range []string{"/", "a", "ω", "A", "\xce"} {
				longer = append(longer, s+p)
			}
		}
		texts = longer
	}
}

func TestP2_1Join(t *testing.T) {
	for _, c := range []struct {
		labels []string
		want   string
		e      api.Errno
	}{
		{nil, "/", api.OK},
		{[]string{}, "/", api.OK},
		{[]string{"a"}, "/a", api.OK},
		{[]string{"a", "β9"}, "/a/β9", api.OK},
		{[]string{"a", "b", "c", "d", "e", "f"}, "/a/b/c/d/e/f", api.OK},
		{[]string{"a", "b", "c", "d", "e", "f", "g"}, "", api.ErrSpace},
		{[]string{"", "", "", "", "", "", ""}, "", api.ErrSpace},
		{[]string{""}, "", api.ErrForm},
		{[]string{"a", ""}, "", api.ErrForm},
		{[]string{"a", "B"}, "", api.ErrForm},
		{[]string{"A", "b"}, "", api.ErrForm},
		{[]string{"a/b"}, "", api.ErrForm},
		{[]string{"/a"}, "", api.ErrForm},
		{[]string{"abcdefg"}, "", api.ErrForm},
		{[]string{"a", "\xff"}, "", api.ErrForm},
	} {
		if s, e := Join(c.labels...); s != c.want || e != c.e {
			t.Errorf("%q: %q, %d", c.labels, s, e)
		}
	}
}

func TestP2_1Depth(t *testing.T) {
	for s, want := range map[string]int{"/": 0, "/a": 1, "/a/b": 2, "/ω/ω/ω": 3, "/a/b/c/d/e": 5, "/a/b/c/d/e/f": 6} {
		if d := Depth(s); d != want {
			t.Error(s, d)
		}
	}
	for _, s := range strangers() {
		if d := Depth(s); d != 0 {
			t.Errorf("%.40q: %d", s, d)
		}
	}
}

func TestP2_1Parent(t *testing.T) {
	for s, want := range map[string]string{"/a": "/", "/a/b": "/a", "/αβ/γ": "/αβ", "/a/b/c/d/e/f": "/a/b/c/d/e"} {
		if p, e := Parent(s); p != want || e != api.OK {
			t.Error(s, p, e)
		}
	}
	if p, e := Parent("/"); p != "" || e != api.ErrNoent {
		t.Error(p, e)
	}
	for _, s := range strangers() {
		if p, e := Parent(s); p != "" || e != api.ErrForm {
			t.Errorf("%.40q: %q, %d", s, p, e)
		}
	}
}

func TestP2_1Child(t *testing.T) {
	for _, c := range []struct {
		name, label, want string
		e                 api.Errno
	}{
		{"/", "a", "/a", api.OK},
		{"/a", "ωωωωωω", "/a/ωωωωωω", api.OK},
		{"/a/b/c/d/e", "f", "/a/b/c/d/e/f", api.OK},
		{"/a/b/c/d/e/f", "g", "", api.ErrSpace},
		{"/a/b/c/d/e/f", "", "", api.ErrForm},
		{"/a/b/c/d/e/f", "G", "", api.ErrForm},
		{"/a/b/c/d/e/f/g", "h", "", api.ErrForm},
		{"/a", "", "", api.ErrForm},
		{"/a", "/b", "", api.ErrForm},
		{"/a", "b/c", "", api.ErrForm},
		{"/a", "abcdefg", "", api.ErrForm},
		{"/a", "\xce", "", api.ErrForm},
		{"", "a", "", api.ErrForm},
		{"a", "a", "", api.ErrForm},
		{"/a/", "a", "", api.ErrForm},
	} {
		if s, e := Child(c.name, c.label); s != c.want || e != c.e {
			t.Errorf("%q, %q: %q, %d", c.name, c.label, s, e)
		}
	}
}

// stands tells by bytes alone whether a name is another one, or stands above it.
func stands(a, b string) bool {
	return a == b || a == "/" || strings.HasPrefix(b, a+"/")
}

func TestP2_2Above(t *testing.T) {
	for _, a := range names() {
		for _, b := range names() {
			if Above(a, b) != stands(a, b) {
				t.Error(a, b)
			}
		}
		for _, s := range strangers() {
			if Above(a, s) || Above(s, a) || Above(s, s) {
				t.Errorf("%q, %.40q", a, s)
			}
		}
	}
	if Above("/a", "/ab") || Above("/a/b", "/a") || !Above("/", "/") || !Above("/a", "/a/b/c/d/e/f") {
		t.Error("by letters")
	}
}

func TestP2_2Common(t *testing.T) {
	for _, a := range names() {
		for _, b := range names() {
			want := a
			for !stands(want, b) {
				want = want[:max(1, strings.LastIndex(want, "/"))]
			}
			if s, e := Common(a, b); s != want || e != api.OK {
				t.Error(a, b, s, e)
			}
		}
		for _, s := range strangers() {
			for _, pair := range [][2]string{{a, s}, {s, a}, {s, s}} {
				if c, e := Common(pair[0], pair[1]); c != "" || e != api.ErrForm {
					t.Errorf("%.40q: %q, %d", pair, c, e)
				}
			}
		}
	}
	if s, _ := Common("/ab/c", "/a/c"); s != "/" {
		t.Error(s)
	}
}

func TestP2_6NamesAndBack(t *testing.T) {
	for _, s := range names() {
		labels, e := Split(s)
		if e != api.OK {
			t.Fatal(s, e)
		}
		if back, e := Join(labels...); back != s || e != api.OK {
			t.Error(s, back, e)
		}
		if s == "/" {
			continue
		}
		parent, _ := Parent(s)
		if back, e := Child(parent, labels[len(labels)-1]); back != s || e != api.OK {
			t.Error(s, back, e)
		}
	}
}

// TestP3NamesLeaveLists: lists that come in stay as they are, behind their end too; those that come out are apart from each other.
func TestP3NamesLeaveLists(t *testing.T) {
	room := []string{"a", "b", "c", "d"}
	if s, _ := Join(room[:2]...); s != "/a/b" || !slices.Equal(room, []string{"a", "b", "c", "d"}) {
		t.Error(s, room)
	}
	first, _ := Split("/a/b")
	second, _ := Split("/a/b")
	first[0] = "z"
	_ = append(first[:1], "y")
	third, _ := Split("/a/b")
	if !slices.Equal(second, []string{"a", "b"}) || !slices.Equal(third, []string{"a", "b"}) {
		t.Error(second, third)
	}
}

// TestCutStops: the walk ends where its reader does, and goes on from the start the next time.
func TestCutStops(t *testing.T) {
	walk := cut("a//β")
	for range 2 {
		var got []string
		for s := range walk {
			got = append(got, s)
			if s == "" {
				break
			}
		}
		if !slices.Equal(got, []string{"a", ""}) {
			t.Error(got)
		}
	}
	if all := slices.Collect(walk); !slices.Equal(all, []string{"a", "", "β"}) {
		t.Error(all)
	}
}
