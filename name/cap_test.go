package name

import (
	"bytes"
	"strings"
	"testing"

	"embrasure/api"
)

// right are the right capabilities of some names, with all rights.
func right() []api.Cap {
	var l []api.Cap
	for _, s := range names() {
		for r := range api.AllRights + 1 {
			l = append(l, api.Cap{Name: s, Rights: uint8(r)})
		}
	}
	return l
}

// few are the right capabilities of short names, with some rights: as many as all threes of them can be gone through.
func few() []api.Cap {
	var l []api.Cap
	for _, s := range []string{"/", "/a", "/b", "/ab", "/a/b", "/a/β", "/a/b/c", "/a/b/c/d/e", "/a/b/c/d/e/f"} {
		for _, r := range []uint8{0, api.Read, api.Write, api.Grant, api.Read | api.Grant, api.Read | api.Write | api.Grant, api.AllRights} {
			l = append(l, api.Cap{Name: s, Rights: r})
		}
	}
	return l
}

// wrong are capabilities that are not right.
func wrong() []api.Cap {
	l := []api.Cap{{}, {Name: "/", Rights: 32}, {Name: "/a", Rights: 33}, {Name: "/a", Rights: 64}, {Name: "/a", Rights: 255}, {Name: "", Rights: 255}}
	for _, s := range strangers() {
		l = append(l, api.Cap{Name: s}, api.Cap{Name: s, Rights: api.AllRights})
	}
	return l
}

func TestP2_2Rights(t *testing.T) {
	for r := range 256 {
		want := ""
		for i, letter := range []string{"r", "w", "x", "g", "d"} {
			if r>>i&1 == 1 {
				want += letter
			}
		}
		e := api.OK
		if r == 0 {
			want = "-"
		}
		if r > 31 {
			want, e = "", api.ErrForm
		}
		if s, g := Rights(uint8(r)); s != want || g != e {
			t.Error(r, s, g)
		}
	}
	for r, want := range map[uint8]string{api.Read: "r", api.Write: "w", api.Execute: "x", api.Grant: "g", api.Destroy: "d", api.AllRights: "rwxgd"} {
		if s, e := Rights(r); s != want || e != api.OK {
			t.Error(r, s, e)
		}
	}
}

// TestP2_2ReadRights goes through all texts of up to six letters.
func TestP2_2ReadRights(t *testing.T) {
	known := map[string]uint8{}
	for r := range api.AllRights + 1 {
		s, _ := Rights(uint8(r))
		known[s] = uint8(r)
	}
	texts := []string{""}
	for range 7 {
		var longer []string
		for _, s := range texts {
			want, ok := known[s]
			r, e := ReadRights(s)
			if ok && (r != want || e != api.OK) || !ok && (r != 0 || e != api.ErrForm) {
				t.Fatalf("%q: %d, %d", s, r, e)
			}
			for _, p := range []string{"r", "w", "x", "g", "d", "-", "R"} {
				longer = append(longer, s+p)
			}
		}
		texts = longer
	}
	for _, s := range []string{" ", "r ", " r", "é", "\xff", "r\xff", "r\x00", "/", strings.Repeat("r", 100000), strings.Repeat("-", 100000)} {
		if r, e := ReadRights(s); r != 0 || e != api.ErrForm {
			t.Errorf("%.40q: %d, %d", s, r, e)
		}
	}
}

func TestP2_3Right(t *testing.T) {
	for _, c := range right() {
		if !Right(c) {
			t.Error(c)
		}
	}
	for _, c := range wrong() {
		if Right(c) {
			t.Errorf("%.40q", c.Name)
		}
	}
	for r := range 256 {
		if Right(api.Cap{Name: "/a", Rights: uint8(r)}) != (r <= 31) {
			t.Error(r)
		}
	}
}

func TestP2_3Opens(t *testing.T) {
	for _, c := range right() {
		for _, g := range few() {
			want := stands(c.Name, g.Name)
			for i := range 5 {
				want = want && (g.Rights>>i&1 == 0 || c.Rights>>i&1 == 1)
			}
			if Opens(c, g) != want {
				t.Fatal(c, g)
			}
		}
	}
	all := api.Cap{Name: "/", Rights: api.AllRights}
	for _, w := range wrong() {
		if Opens(all, w) || Opens(w, all) || Opens(w, w) || Opens(w, api.Cap{Name: "/a"}) {
			t.Errorf("%.40q, %d", w.Name, w.Rights)
		}
	}
}

func TestP2_3Restrict(t *testing.T) {
	for _, c := range right() {
		for r := range 256 {
			want, e := api.Cap{Name: c.Name, Rights: c.Rights & uint8(r)}, api.OK
			if r > 31 {
				want, e = api.Cap{}, api.ErrForm
			}
			if g, ge := Restrict(c, uint8(r)); g != want || ge != e {
				t.Fatal(c, r, g, ge)
			}
		}
	}
	for _, w := range wrong() {
		for _, r := range []uint8{0, api.Read, api.AllRights, 255} {
			if g, e := Restrict(w, r); g != (api.Cap{}) || e != api.ErrForm {
				t.Errorf("%.40q: %v, %d", w.Name, g, e)
			}
		}
	}
}

func TestP2_3Derive(t *testing.T) {
	deep := "/a/b/c/d/e/f"
	for _, c := range []struct {
		from  api.Cap
		label string
		want  api.Cap
		e     api.Errno
	}{
		{api.Cap{Name: "/a", Rights: api.Read | api.Grant}, "b", api.Cap{Name: "/a/b", Rights: api.Read | api.Grant}, api.OK},
		{api.Cap{Name: "/", Rights: api.AllRights}, "ω", api.Cap{Name: "/ω", Rights: api.AllRights}, api.OK},
		{api.Cap{Name: "/a/b/c/d/e", Rights: api.Grant}, "f", api.Cap{Name: deep, Rights: api.Grant}, api.OK},
		{api.Cap{Name: "/a", Rights: api.AllRights &^ api.Grant}, "b", api.Cap{}, api.ErrPerm},
		{api.Cap{Name: "/a"}, "b", api.Cap{}, api.ErrPerm},
		{api.Cap{Name: "/a"}, "", api.Cap{}, api.ErrForm},
		{api.Cap{Name: "/a"}, "B", api.Cap{}, api.ErrForm},
		{api.Cap{Name: "/a", Rights: api.Grant}, "b/c", api.Cap{}, api.ErrForm},
		{api.Cap{Name: "/a", Rights: api.Grant}, "abcdefg", api.Cap{}, api.ErrForm},
		{api.Cap{Name: deep, Rights: api.AllRights}, "g", api.Cap{}, api.ErrSpace},
		{api.Cap{Name: deep, Rights: api.Read}, "g", api.Cap{}, api.ErrPerm},
		{api.Cap{Name: deep, Rights: api.AllRights}, "\xff", api.Cap{}, api.ErrForm},
	} {
		if g, e := Derive(c.from, c.label); g != c.want || e != c.e {
			t.Error(c.from, c.label, g, e)
		}
	}
	for _, w := range wrong() {
		if g, e := Derive(w, "a"); g != (api.Cap{}) || e != api.ErrForm {
			t.Errorf("%.40q: %v, %d", w.Name, g, e)
		}
	}
}

func TestP2_3Encode(t *testing.T) {
	for _, c := range right() {
		want := append([]byte{c.Rights, byte(len(c.Name))}, c.Name...)
		if b, e := Encode(c); !bytes.Equal(b, want) || e != api.OK {
			t.Fatal(c, b, e)
		}
	}
	for _, w := range wrong() {
		if b, e := Encode(w); len(b) != 0 || e != api.ErrForm {
			t.Errorf("%.40q: %v, %d", w.Name, b, e)
		}
	}
	if b, _ := Encode(api.Cap{Name: "/α", Rights: api.Write}); !bytes.Equal(b, []byte{2, 3, '/', 0xce, 0xb1}) {
		t.Error(b)
	}
}

func TestP2_3Decode(t *testing.T) {
	long := append([]byte{1, 255}, bytes.Repeat([]byte("a"), 255)...)
	for _, b := range [][]byte{
		nil, {}, {0}, {1}, {31}, {0, 0}, {31, 0}, {0, 1}, {0, 1, 'a'}, {0, 0, '/'}, {0, 2, '/'}, {0, 1, '/', 0}, {0, 2, '/', '/'}, {0, 2, '/', 'A'},
		{32, 1, '/'}, {255, 1, '/'}, {0, 3, '/', 'a'}, {0, 1, '/', 'a'}, {0, 2, '/', 0xce}, {0, 255}, long, {'/', 'a'}, bytes.Repeat([]byte{0}, 100000),
	} {
		if c, e := Decode(b); c != (api.Cap{}) || e != api.ErrForm {
			t.Errorf("%.40x: %v, %d", b, c, e)
		}
	}
	if c, e := Decode([]byte{31, 1, '/'}); c != (api.Cap{Name: "/", Rights: 31}) || e != api.OK {
		t.Error(c, e)
	}
}

// TestP2_3DecodeAllNear: of bytes that differ from a capability's in one place Decode takes just those that Encode gives.
func TestP2_3DecodeAllNear(t *testing.T) {
	for _, from := range []api.Cap{{Name: "/"}, {Name: "/aα", Rights: 5}, {Name: "/a/b", Rights: 31}} {
		whole, _ := Encode(from)
		for i := range whole {
			for v := range 256 {
				b := bytes.Clone(whole)
				b[i] = byte(v)
				c, e := Decode(b)
				if e != api.OK && (e != api.ErrForm || c != (api.Cap{})) {
					t.Fatal(b, c, e)
				}
				if back, _ := Encode(c); e == api.OK && !bytes.Equal(back, b) {
					t.Fatal(b, c, back)
				}
			}
			if c, e := Decode(whole[:i]); e != api.ErrForm {
				t.Fatal(whole[:i], c, e)
			}
		}
	}
}

func TestP2_3PrintParse(t *testing.T) {
	for c, want := range map[api.Cap]string{
		{Name: "/"}: "/ -",
		{Name: "/a/β", Rights: api.Read | api.Grant}:  "/a/β rg",
		{Name: "/a/b/c/d/e/f", Rights: api.AllRights}: "/a/b/c/d/e/f rwxgd",
	} {
		if s, e := Print(c); s != want || e != api.OK {
			t.Error(c, s, e)
		}
		if g, e := Parse(want); g != c || e != api.OK {
			t.Error(want, g, e)
		}
	}
	for _, w := range wrong() {
		if s, e := Print(w); s != "" || e != api.ErrForm {
			t.Errorf("%.40q: %q, %d", w.Name, s, e)
		}
	}
	for _, s := range strangers() {
		if c, e := Parse(s + " r"); c != (api.Cap{}) || e != api.ErrForm {
			t.Errorf("%.40q: %v, %d", s, c, e)
		}
	}
	for _, s := range []string{
		"", " ", "/", "/ ", "/a", "/a ", "-", " -", "r", " r", "/a  r", "/a r ", " /a r", "/a\tr", "/a\u00a0r", "/a wr", "/a rr", "/a r-", "/a --", "/a R", "/a r r", "/a - -", "/a r\n", "/a/ r", "a r", "/a 1", "\xff r", "/a \xff",
		strings.Repeat(" ", 100000), "/a " + strings.Repeat("r", 100000),
	} {
		if c, e := Parse(s); c != (api.Cap{}) || e != api.ErrForm {
			t.Errorf("%.40q: %v, %d", s, c, e)
		}
	}
}

func TestP2_4NothingMoreIsOpened(t *testing.T) {
	for _, c := range few() {
		var less []api.Cap
		for _, label := range []string{"a", "b", "c", "β", "f"} {
			if d, e := Derive(c, label); e == api.OK {
				less = append(less, d)
			}
		}
		for r := range api.AllRights + 1 {
			if d, e := Restrict(c, uint8(r)); e == api.OK {
				less = append(less, d)
			}
		}
		for _, d := range less {
			if !Right(d) || !Opens(c, d) {
				t.Fatal(c, d)
			}
			for _, g := range few() {
				if Opens(d, g) && !Opens(c, g) {
					t.Fatal(c, d, g)
				}
			}
		}
	}
}

func TestP2_5OpensGoesOn(t *testing.T) {
	l := few()
	for _, a := range l {
		for _, b := range l {
			if !Opens(a, b) {
				continue
			}
			for _, c := range l {
				if Opens(b, c) && !Opens(a, c) {
					t.Fatal(a, b, c)
				}
			}
		}
	}
}

func TestP2_6CapsAndBack(t *testing.T) {
	for r := range api.AllRights + 1 {
		s, _ := Rights(uint8(r))
		if back, e := ReadRights(s); int(back) != r || e != api.OK {
			t.Error(r, s, back, e)
		}
	}
	for _, c := range right() {
		b, _ := Encode(c)
		if back, e := Decode(b); back != c || e != api.OK {
			t.Fatal(c, b, back, e)
		}
		s, _ := Print(c)
		if back, e := Parse(s); back != c || e != api.OK {
			t.Fatal(c, s, back, e)
		}
	}
}

func TestNameExample(t *testing.T) {
	c, e := Parse("/a rg")
	if e != api.OK || !Opens(c, api.Cap{Name: "/a/β", Rights: api.Read}) {
		t.Error(c, e)
	}
	if d, e := Derive(c, "b"); d.Name != "/a/b" || e != api.OK {
		t.Error(d, e)
	}
}

// TestP3BytesAreApart: bytes that come in stay as they are, behind their end too, and are not kept; those that come out are apart from each other.
func TestP3BytesAreApart(t *testing.T) {
	room := []byte{1, 2, '/', 'a', 77, 78}
	c, e := Decode(room[:4])
	if e != api.OK || !bytes.Equal(room, []byte{1, 2, '/', 'a', 77, 78}) {
		t.Error(c, e, room)
	}
	room[3] = 'z'
	if c.Name != "/a" {
		t.Error(c)
	}
	first, _ := Encode(c)
	second, _ := Encode(c)
	first[0] = 99
	_ = append(first[:1], 98, 97)
	if third, _ := Encode(c); !bytes.Equal(second, []byte{1, 2, '/', 'a'}) || !bytes.Equal(third, second) {
		t.Error(second, third)
	}
}
