package audit

import (
	"slices"
	"strings"
	"testing"

	"embrasure/api"
)

// many are so many events that can be printed.
func many(n int) []api.Event {
	var l []api.Event
	for k := range n {
		l = append(l, of(1+k%4, uint8(k%6), uint8(k%64)))
	}
	return l
}

func TestP18_3Print(t *testing.T) {
	for _, c := range []struct {
		l    []api.Event
		want string
	}{
		{nil, ""},
		{[]api.Event{}, ""},
		{[]api.Event{grant(0, 0)}, "grant 0 0\n"},
		{[]api.Event{share(5, 63)}, "share 5 63\n"},
		{[]api.Event{free(1, 10), take(2, 9)}, "free 1 10\ntake 2 9\n"},
		{[]api.Event{take(0, 0), take(0, 0)}, "take 0 0\ntake 0 0\n"},
	} {
		if got, e := Print(c.l); got != c.want || e != api.OK {
			t.Error(c.l, got, e)
		}
	}
}

// TestP18_3PrintAll: each event that can be printed, and none that can not.
func TestP18_3PrintAll(t *testing.T) {
	for kind := range 256 {
		for _, env := range []uint8{0, 1, 5, 6, 7, 255} {
			for _, frame := range []uint8{0, 9, 10, 63, 64, 65, 255} {
				e := of(kind, env, frame)
				want, f := "", api.ErrForm
				if kind >= 1 && kind <= 4 && env < 6 && frame < 64 {
					want, f = plainText([]api.Event{e}), api.OK
				}
				if got, g := Print([]api.Event{e}); got != want || g != f {
					t.Fatal(e, got, g)
				}
				if got, g := Print([]api.Event{grant(0, 0), e, free(0, 0)}); f != api.OK && got != "" || g != f {
					t.Fatal(e, "between", got, g)
				}
			}
		}
	}
}

// TestP18_3Most: 200 events, and no more, are printed and read.
func TestP18_3Most(t *testing.T) {
	for _, n := range []int{1, 199, 200, 201, 202, 500, 100000} {
		text, e := Print(many(n))
		back, f := Parse(plainText(many(n)))
		if n <= 200 && (text != plainText(many(n)) || e != api.OK || !slices.Equal(back, many(n)) || f != api.OK) {
			t.Error(n, e, f)
		}
		if n > 200 && (text != "" || e != api.ErrForm || len(back) != 0 || f != api.ErrForm) {
			t.Error(n, e, f)
		}
	}
}

// TestP18_3ParseAll: what is printed of each event is read, and is it.
func TestP18_3ParseAll(t *testing.T) {
	for kind := 1; kind <= 4; kind++ {
		for env := range uint8(6) {
			for frame := range uint8(64) {
				e := of(kind, env, frame)
				if got, f := Parse(plainText([]api.Event{e})); !slices.Equal(got, []api.Event{e}) || f != api.OK {
					t.Fatal(e, got, f)
				}
			}
		}
	}
	if got, e := Parse(""); len(got) != 0 || e != api.OK {
		t.Error(got, e)
	}
}

// TestP18_3ParseWrong: all that is not printed is refused, alone, and ahead of and behind lines that are right.
func TestP18_3ParseWrong(t *testing.T) {
	for _, line := range []string{
		"\n", " \n", "grant\n", "grant \n", "grant 0\n", "grant 0 \n", "grant  0\n", "grant 0  0\n", " grant 0 0\n", "grant 0 0 \n", "grant\t0 0\n", "grant 0\t0\n", "grant 0 0 0\n", "grant 0 0\r\n", "\rgrant 0 0\n",
		"grant 00 0\n", "grant 0 00\n", "grant 01 0\n", "grant 0 07\n", "grant 0 063\n",
		"grant 6 0\n", "grant 10 0\n", "grant 255 0\n", "grant 256 0\n", "grant 0 64\n", "take 1 64\n", "grant 0 65\n", "grant 0 100\n", "grant 0 256\n", "grant 0 255\n",
		"grant 99999999999999999999 0\n", "grant 0 18446744073709551616\n", "grant -1 0\n", "grant 0 -0\n", "grant +0 0\n", "grant 0 +1\n", "grant x1 0\n", "grant 1_0 0\n", "grant 0 1.0\n", "grant 0 0x1\n", "grant 1e0 0\n",
		"Grant 0 0\n", "GRANT 0 0\n", "granted 0 0\n", "gran 0 0\n", "none 0 0\n", "0 0 0\n", "1 0 0\n", " 0 0\n", "repossess 0 0\n",
		"grant 0 0\x00\n", "grant ٠ 0\n", "grant 0 ٣\n", "gränt 0 0\n", "\xff\n", "grant\xa00 0\n", "grant 0 0;\n", "grant,0,0\n", "grant 0\n0\n", "grant\n0 0\n",
		"share 0 0\n\n", "\nshare 0 0\n",
	} {
		for _, s := range []string{line, "free 1 1\n" + line, line + "free 1 1\n"} {
			if got, e := Parse(s); len(got) != 0 || e != api.ErrForm {
				t.Errorf("%q %v %v", s, got, e)
			}
		}
	}
	for _, s := range []string{"grant 0 0", "grant 0 0\ngrant 0 1", "g", "grant 0 0\n ", "\xff\xfe", strings.Repeat("grant", 100000), strings.Repeat(" ", 100000), strings.Repeat("\n", 100000)} {
		if got, e := Parse(s); len(got) != 0 || e != api.ErrForm {
			t.Errorf("%.20q %v %v", s, got, e)
		}
	}
}

// TestP18_3ParseAny: a text that is changed by one byte is refused, or is what is printed of what was read.
func TestP18_3ParseAny(t *testing.T) {
	text, _ := Print([]api.Event{grant(0, 5), share(1, 5), free(0, 5), take(5, 63)})
	read := 0
	for at := range len(text) {
		for b := range 256 {
			for _, s := range []string{text[:at] + string([]byte{byte(b)}) + text[at:], text[:at] + string([]byte{byte(b)}) + text[at+1:], text[:at] + text[at+1:]} {
				got, e := Parse(s)
				if e != api.OK && (e != api.ErrForm || len(got) != 0) {
					t.Fatalf("%q %v %v", s, got, e)
				}
				if e == api.OK {
					read++
					if plainText(got) != s {
						t.Fatalf("%q %v", s, got)
					}
				}
			}
		}
	}
	if read == 0 {
		t.Error("none was read")
	}
}

// TestP3Parse: what is read is the caller's.
func TestP3Parse(t *testing.T) {
	text := plainText(many(20))
	one, _ := Parse(text)
	two, _ := Parse(text)
	spoil(one, api.Event{})
	if !slices.Equal(two, many(20)) {
		t.Error(two)
	}
}

// TestP18_3Histories: what is printed of any events is read as them.
func TestP18_3Histories(t *testing.T) {
	chance := chances(3)
	for range 300 {
		l := events(chance, chance(12))
		text, e := Print(l)
		wrong := slices.ContainsFunc(l, func(e api.Event) bool { return e.Kind == 0 || e.Kind > 4 || e.Env > 5 || e.Frame > 63 })
		if wrong != (e == api.ErrForm) || wrong && text != "" {
			t.Fatal(l, text, e)
		}
		if back, f := Parse(text); !wrong && (!slices.Equal(back, l) || f != api.OK) {
			t.Fatal(l, back, f)
		}
	}
}
