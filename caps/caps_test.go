package caps

import (
	"math"
	"slices"
	"strings"
	"testing"

	"embrasure/api"
	"embrasure/name"
)

// parsed is the capability that a text says.
func parsed(t *testing.T, text string) api.Cap {
	t.Helper()
	c, e := name.Parse(text)
	if e != api.OK {
		t.Fatal(text, e)
	}
	return c
}

// table has capabilities in the slots from 0 on; "" leaves a slot empty.
func table(t *testing.T, texts ...string) *Table {
	t.Helper()
	x := New()
	for slot, text := range texts {
		if text == "" {
			continue
		}
		if e := x.Put(slot, parsed(t, text)); e != api.OK {
			t.Fatal(text, e)
		}
	}
	return x
}

// texts are what all slots have, as they are told one by one.
func texts(t *testing.T, x *Table) []string {
	t.Helper()
	l := make([]string, api.MaxCaps)
	for slot := range l {
		c, e := x.Get(slot)
		if e == api.ErrNoent && c == (api.Cap{}) {
			continue
		}
		s, f := name.Print(c)
		if e != api.OK || f != api.OK {
			t.Fatal(slot, c, e, f)
		}
		l[slot] = s
	}
	return l
}

// same holds what lies in a table against what is asked for, and all that is told of the slots.
func same(t *testing.T, what string, x *Table, want ...string) {
	t.Helper()
	want = append(want, make([]string, api.MaxCaps-len(want))...)
	if got := texts(t, x); !slices.Equal(got, want) {
		t.Fatalf("%s: %q, not %q", what, got, want)
	}
	var slots []int
	for slot, text := range want {
		if text != "" {
			slots = append(slots, slot)
		}
	}
	if got := x.Slots(); !slices.Equal(got, slots) {
		t.Fatalf("%s: slots %v, not %v", what, got, slots)
	}
	room, e := slices.Index(want, ""), api.OK
	if room < 0 {
		room, e = 0, api.ErrSpace
	}
	if n, f := x.Room(); n != room || f != e {
		t.Fatalf("%s: room %d, %d, not %d, %d", what, n, f, room, e)
	}
}

// some are capabilities in all slots.
func some() []string {
	return []string{"/ rwxgd", "/a rg", "/a/b r", "/ab g", "/a -", "/b/α/0 rwg", "/a rg", "/b x", "/ -", "/ω d", "/a/b/c/d/e/f g", "/b/α rw"}
}

// outside are slots that there are not.
func outside() []int {
	return []int{-1, 12, 13, -2, -12, 255, 256, 268, 1 << 16, 1 << 32, 1<<32 + 1, -1 << 32, math.MinInt, math.MaxInt}
}

// wrong are capabilities that are not right.
func wrong() []api.Cap {
	return []api.Cap{{}, {Rights: api.Read}, {Name: "a"}, {Name: "//"}, {Name: "/a/", Rights: api.Read}, {Name: "/A"}, {Name: "/abcdefg"}, {Name: "/a/b/c/d/e/f/g"}, {Name: "/\xff"}, {Name: "/", Rights: 32}, {Name: "/a", Rights: 255}, {Name: " ", Rights: 31}, {Name: strings.Repeat("/a", 100000)}}
}

func TestP9_1New(t *testing.T) {
	x := New()
	if x == nil {
		t.Fatal("none")
	}
	same(t, "a new one", x)
	if e := x.Put(3, api.Cap{Name: "/"}); e != api.OK {
		t.Error(e)
	}
	same(t, "the next one", New())
}

func TestP9_1Example(t *testing.T) {
	x := table(t, "/ rg")
	if x.Derive(0, 1, "a") != api.OK || x.Restrict(1, 2, api.Read) != api.OK {
		t.Error("refused")
	}
	if c, e := x.Get(2); c != (api.Cap{Name: "/a", Rights: api.Read}) || e != api.OK {
		t.Error(c, e)
	}
	same(t, "the example", x, "/ rg", "/a rg", "/a r")
}

// TestP9_1Put: every slot takes one, in any order, and one without rights, too.
func TestP9_1Put(t *testing.T) {
	for _, order := range []func(int) int{
		func(k int) int { return k },
		func(k int) int { return 11 - k },
		func(k int) int { return k * 5 % 12 },
	} {
		x, want := New(), make([]string, 12)
		for k := range 12 {
			slot := order(k)
			if e := x.Put(slot, parsed(t, some()[slot])); e != api.OK {
				t.Fatal(slot, e)
			}
			want[slot] = some()[slot]
			same(t, "put", x, want...)
		}
	}
	x := New()
	if x.Put(0, api.Cap{Name: "/"}) != api.OK || x.Put(11, api.Cap{Name: "/a"}) != api.OK {
		t.Error("without rights")
	}
	if c, e := x.Get(0); c != (api.Cap{Name: "/"}) || e != api.OK {
		t.Error(c, e)
	}
}

// TestP9_1PutRights: all rights that may be, and none above.
func TestP9_1PutRights(t *testing.T) {
	for r := range 256 {
		x, c, want := New(), api.Cap{Name: "/a", Rights: uint8(r)}, api.OK
		if r > 31 {
			want = api.ErrForm
		}
		if e := x.Put(5, c); e != want {
			t.Error(r, e)
		}
		if got, e := x.Get(5); want == api.OK && (got != c || e != api.OK) || want != api.OK && e != api.ErrNoent {
			t.Error(r, got, e)
		}
	}
}

// TestP9_1PutWrong: there is no such slot, ahead of a wrong capability, ahead of one that lies there.
func TestP9_1PutWrong(t *testing.T) {
	for _, l := range [][]string{nil, {"", "/a rg"}, some()} {
		x := table(t, l...)
		for _, slot := range outside() {
			for _, c := range append(wrong(), api.Cap{Name: "/"}) {
				if e := x.Put(slot, c); e != api.ErrRange {
					t.Error(slot, e)
				}
			}
		}
		for slot := range 12 {
			for _, c := range wrong() {
				if e := x.Put(slot, c); e != api.ErrForm {
					t.Errorf("%d, %.40q: %d", slot, c.Name, e)
				}
			}
		}
		same(t, "refused", x, l...)
	}
}

// TestP9_1PutWhereOneLies: whether it is the same or another one.
func TestP9_1PutWhereOneLies(t *testing.T) {
	x := table(t, some()...)
	for slot := range 12 {
		for _, text := range some() {
			if e := x.Put(slot, parsed(t, text)); e != api.ErrExist {
				t.Error(slot, text, e)
			}
		}
	}
	same(t, "refused", x, some()...)
}

func TestP9_1GetDropWrong(t *testing.T) {
	for _, l := range [][]string{nil, {"", "/a rg", "", "/ -"}, some()} {
		x := table(t, l...)
		for _, slot := range outside() {
			if c, e := x.Get(slot); c != (api.Cap{}) || e != api.ErrRange {
				t.Error(slot, c, e)
			}
			if e := x.Drop(slot); e != api.ErrRange {
				t.Error(slot, e)
			}
		}
		for slot := range 12 {
			if slot < len(l) && l[slot] != "" {
				continue
			}
			if c, e := x.Get(slot); c != (api.Cap{}) || e != api.ErrNoent {
				t.Error(slot, c, e)
			}
			if e := x.Drop(slot); e != api.ErrNoent {
				t.Error(slot, e)
			}
		}
		same(t, "refused", x, l...)
	}
}

// TestP9_1Drop: the one of the slot is out, no other one, once; the slot takes one again.
func TestP9_1Drop(t *testing.T) {
	for slot := range 12 {
		x, want := table(t, some()...), some()
		want[slot] = ""
		if e := x.Drop(slot); e != api.OK {
			t.Error(slot, e)
		}
		same(t, "dropped", x, want...)
		if e := x.Drop(slot); e != api.ErrNoent {
			t.Error(slot, e, "twice")
		}
		want[slot] = "/new rw"
		if e := x.Put(slot, parsed(t, "/new rw")); e != api.OK {
			t.Error(slot, e)
		}
		same(t, "put again", x, want...)
	}
}

func TestP9_1Derive(t *testing.T) {
	x := table(t, "/ rwxgd", "/a g", "/a/b/c/d/e rg")
	for _, c := range []struct {
		from, to int
		label    string
		want     string
	}{
		{0, 3, "b", "/b rwxgd"},
		{1, 11, "αβω", "/a/αβω g"},
		{2, 4, "abc123", "/a/b/c/d/e/abc123 rg"},
		{3, 5, "ωωωωωω", "/b/ωωωωωω rwxgd"},
		{5, 6, "0", "/b/ωωωωωω/0 rwxgd"},
	} {
		want := texts(t, x)
		want[c.to] = c.want
		if e := x.Derive(c.from, c.to, c.label); e != api.OK {
			t.Error(c, e)
		}
		same(t, c.want, x, want...)
	}
}

func TestP9_1Restrict(t *testing.T) {
	for has := range 32 {
		for rights := range 32 {
			x := New()
			x.Put(7, api.Cap{Name: "/a/b", Rights: uint8(has)})
			if e := x.Restrict(7, 0, uint8(rights)); e != api.OK {
				t.Fatal(has, rights, e)
			}
			if c, e := x.Get(0); c != (api.Cap{Name: "/a/b", Rights: uint8(has & rights)}) || e != api.OK {
				t.Fatal(has, rights, c, e)
			}
			if c, e := x.Get(7); c != (api.Cap{Name: "/a/b", Rights: uint8(has)}) || e != api.OK {
				t.Fatal(has, rights, c, e)
			}
		}
	}
}

// full is a table of which slot 0 has all, 1 no Grant, 2 no room below it, 3 neither, 4 nothing, 5 something.
func full(t *testing.T) *Table {
	return table(t, "/ rwxgd", "/a rwxd", "/a/b/c/d/e/f rg", "/a/b/c/d/e/f r", "", "/z -")
}

// TestP9_1DeriveErrors: which one comes first, wherever it is to go.
func TestP9_1DeriveErrors(t *testing.T) {
	labels := []string{"", "a/b", "/a", "A", "abcdefg", "ωωωωωωω", "a b", "\xff", "é", strings.Repeat("a", 100000)}
	targets := append(outside(), 0, 4, 5, 6, 11)
	x := full(t)
	for _, to := range targets {
		for _, label := range append(labels, "a") {
			for _, from := range outside() {
				if e := x.Derive(from, to, label); e != api.ErrRange {
					t.Fatal(from, to, label, e)
				}
			}
			for _, from := range []int{4, 6, 11} {
				if e := x.Derive(from, to, label); e != api.ErrNoent {
					t.Fatal(from, to, label, e)
				}
			}
		}
		for from := range 4 {
			for _, label := range labels {
				if e := x.Derive(from, to, label); e != api.ErrForm {
					t.Fatal(from, to, label, e)
				}
			}
		}
		for from, want := range map[int]api.Errno{1: api.ErrPerm, 3: api.ErrPerm, 2: api.ErrSpace, 5: api.ErrPerm} {
			if e := x.Derive(from, to, "a"); e != want {
				t.Error(from, to, e)
			}
		}
	}
	for _, to := range outside() {
		if e := x.Derive(0, to, "a"); e != api.ErrRange {
			t.Error(to, e)
		}
	}
	for _, to := range []int{0, 1, 2, 3, 5} {
		if e := x.Derive(0, to, "a"); e != api.ErrExist {
			t.Error(to, e)
		}
	}
	same(t, "refused", x, texts(t, full(t))...)
}

// TestP9_1RestrictErrors: which one comes first, wherever it is to go.
func TestP9_1RestrictErrors(t *testing.T) {
	x := full(t)
	for _, to := range append(outside(), 0, 4, 5, 6, 11) {
		for _, rights := range []uint8{0, 1, 31, 32, 33, 64, 255} {
			for _, from := range outside() {
				if e := x.Restrict(from, to, rights); e != api.ErrRange {
					t.Fatal(from, to, rights, e)
				}
			}
			for _, from := range []int{4, 6, 11} {
				if e := x.Restrict(from, to, rights); e != api.ErrNoent {
					t.Fatal(from, to, rights, e)
				}
			}
			for _, from := range []int{0, 1, 2, 3, 5} {
				if e := x.Restrict(from, to, rights); rights > 31 && e != api.ErrForm {
					t.Fatal(from, to, rights, e)
				}
				if rights <= 31 && (to == 4 || to == 6 || to == 11) {
					x.Drop(to)
				}
			}
		}
	}
	for _, to := range outside() {
		if e := x.Restrict(1, to, api.Read); e != api.ErrRange {
			t.Error(to, e)
		}
	}
	for _, to := range []int{0, 1, 2, 3, 5} {
		if e := x.Restrict(1, to, api.Read); e != api.ErrExist {
			t.Error(to, e)
		}
	}
	same(t, "refused", x, texts(t, full(t))...)
}

// TestP9_1DeriveDone: what lies in a slot that is given for both is not derived over.
func TestP9_1DeriveDone(t *testing.T) {
	x := table(t, "/a rg")
	if x.Derive(0, 0, "b") != api.ErrExist || x.Restrict(0, 0, api.Read) != api.ErrExist {
		t.Error("over itself")
	}
	same(t, "over itself", x, "/a rg")
	if x.Derive(0, 11, "b") != api.OK || x.Drop(0) != api.OK || x.Derive(11, 0, "c") != api.OK {
		t.Error("refused")
	}
	same(t, "what is derived stays", x, "/a/b/c rg", "", "", "", "", "", "", "", "", "", "", "/a/b rg")
}

func TestP9_1Revoke(t *testing.T) {
	for top, out := range map[string][]int{
		"/":             {0, 1, 2, 3, 4, 5, 6, 7, 8, 9, 10, 11},
		"/a":            {1, 2, 4, 6, 10},
		"/ab":           {3},
		"/a/b":          {2, 10},
		"/a/b/c":        {10},
		"/a/b/c/d/e/f":  {10},
		"/b":            {5, 7, 11},
		"/b/α":          {5, 11},
		"/b/α/0":        {5},
		"/ω":            {9},
		"/c":            nil,
		"/a/c":          nil,
		"/a/b/c/d/e/g":  nil,
		"/b/α/0/1":      nil,
		"":              nil,
		"a":             nil,
		"/a/":           nil,
		"//":            nil,
		"/A":            nil,
		"/a ":           nil,
		"/\xff":         nil,
		"/a/b/c/d/e/f/": nil,
	} {
		x, want := table(t, some()...), some()
		for _, slot := range out {
			want[slot] = ""
		}
		if got := x.Revoke(top); !slices.Equal(got, out) {
			t.Errorf("%q: %v, not %v", top, got, out)
		}
		same(t, "revoked "+top, x, want...)
		if got := x.Revoke(top); len(got) != 0 {
			t.Errorf("%q: %v, twice", top, got)
		}
		same(t, "revoked twice "+top, x, want...)
	}
	if l := New().Revoke("/"); len(l) != 0 {
		t.Error(l)
	}
	if l := table(t, some()...).Revoke(strings.Repeat("/a", 100000)); len(l) != 0 {
		t.Error(l)
	}
}

func TestP9_2Find(t *testing.T) {
	x := table(t, "", "/a r", "/a/b rw", "/a rw", "/b -", "", "/ x", "/a rw")
	for guard, want := range map[string]int{
		"/a r": 1, "/a w": 3, "/a rw": 3, "/a/b w": 2, "/a/b r": 1, "/a/b/c rw": 2, "/a/c w": 3, "/a -": 1,
		"/b -": 4, "/b/c -": 4, "/b x": 6, "/ x": 6, "/ -": 6, "/ab -": 6, "/a x": 6, "/a/b/c/d/e/f -": 1,
	} {
		if n, e := x.Find(parsed(t, guard)); n != want || e != api.OK {
			t.Error(guard, n, e)
		}
		if !x.Opens(parsed(t, guard)) {
			t.Error(guard)
		}
	}
	for _, guard := range []string{"/ r", "/a rx", "/b r", "/ab r", "/a g", "/a/b rwx", "/ wx", "/c d"} {
		if n, e := x.Find(parsed(t, guard)); n != 0 || e != api.ErrPerm {
			t.Error(guard, n, e)
		}
		if x.Opens(parsed(t, guard)) {
			t.Error(guard)
		}
	}
	same(t, "looked at", x, "", "/a r", "/a/b rw", "/a rw", "/b -", "", "/ x", "/a rw")
}

// TestP9_2FindWrong: a guard that is not right is opened by none, nor is any by an empty table; the last slot is looked at, too.
func TestP9_2FindWrong(t *testing.T) {
	for _, x := range []*Table{New(), table(t, some()...)} {
		for _, guard := range wrong() {
			if n, e := x.Find(guard); n != 0 || e != api.ErrPerm || x.Opens(guard) {
				t.Errorf("%.40q: %d, %d", guard.Name, n, e)
			}
		}
	}
	if n, e := New().Find(api.Cap{Name: "/"}); n != 0 || e != api.ErrPerm || New().Opens(api.Cap{Name: "/"}) {
		t.Error(n, e)
	}
	x := New()
	x.Put(11, api.Cap{Name: "/a", Rights: api.Read})
	if n, e := x.Find(api.Cap{Name: "/a/b", Rights: api.Read}); n != 11 || e != api.OK || !x.Opens(api.Cap{Name: "/a"}) {
		t.Error(n, e)
	}
	x.Put(0, api.Cap{Name: "/a/b", Rights: api.Read})
	if n, e := x.Find(api.Cap{Name: "/a/b", Rights: api.Read}); n != 0 || e != api.OK {
		t.Error(n, e)
	}
}

// TestP9_2Room: the first one without, up to the last one, and of a full table, which takes no more (E7).
func TestP9_2Room(t *testing.T) {
	x := New()
	for k := range 12 {
		if n, e := x.Room(); n != k || e != api.OK {
			t.Error(k, n, e)
		}
		x.Put(k, api.Cap{Name: "/"})
	}
	if n, e := x.Room(); n != 0 || e != api.ErrSpace {
		t.Error(n, e)
	}
	for slot := range 16 {
		if x.Put(slot, api.Cap{Name: "/b"}) == api.OK || x.Restrict(0, slot, 0) == api.OK || len(x.Slots()) != api.MaxCaps {
			t.Error(slot, x.Slots())
		}
	}
	x.Drop(9)
	x.Drop(4)
	if n, e := x.Room(); n != 4 || e != api.OK {
		t.Error(n, e)
	}
}

// few are right capabilities of some names and rights, as guards, and as what opens them.
func few() []api.Cap {
	var l []api.Cap
	for _, s := range []string{"/", "/a", "/b", "/ab", "/a/b", "/a/β", "/a/b/c", "/a/b/c/d/e", "/a/b/c/d/e/f"} {
		for _, r := range []uint8{0, api.Read, api.Grant, api.Read | api.Grant, api.AllRights &^ api.Read, api.AllRights} {
			l = append(l, api.Cap{Name: s, Rights: r})
		}
	}
	return l
}

// TestP9_3AddsNothing: what was not opened ahead of Derive and Restrict is not opened behind it.
func TestP9_3AddsNothing(t *testing.T) {
	for _, c := range few() {
		adds := []func(*Table) api.Errno{}
		for _, label := range []string{"a", "b", "β", "c", "f"} {
			adds = append(adds, func(x *Table) api.Errno { return x.Derive(0, 1, label) })
		}
		for rights := range 32 {
			adds = append(adds, func(x *Table) api.Errno { return x.Restrict(0, 1, uint8(rights)) })
		}
		for k, add := range adds {
			x := New()
			x.Put(0, c)
			before := x.Fork()
			if e := add(x); e != api.OK {
				continue
			}
			if l := x.Slots(); len(l) != 2 {
				t.Fatal(c, k, l)
			}
			for _, guard := range few() {
				if x.Opens(guard) != before.Opens(guard) {
					t.Fatal(c, k, guard)
				}
			}
			x.Drop(0)
			for _, guard := range few() {
				if x.Opens(guard) && !before.Opens(guard) {
					t.Fatal(c, k, guard)
				}
			}
		}
	}
}

// TestP9_4NothingBelow: of all that opens a guard behind Revoke, none is at the name or below it; what opened by another one opens still.
func TestP9_4NothingBelow(t *testing.T) {
	for _, gone := range []string{"/", "/a", "/b", "/ab", "/a/b", "/a/b/c", "/a/b/c/d/e/f", "/c"} {
		x := table(t, some()...)
		before := x.Fork()
		out := x.Revoke(gone)
		for _, guard := range few() {
			n, e := x.Find(guard)
			if e == api.OK {
				if c, _ := x.Get(n); name.Above(gone, c.Name) || slices.Contains(out, n) {
					t.Error(gone, guard, c)
				}
			}
			want := false
			for _, slot := range before.Slots() {
				c, _ := before.Get(slot)
				want = want || !name.Above(gone, c.Name) && name.Opens(c, guard)
			}
			if (e == api.OK) != want || x.Opens(guard) != want {
				t.Error(gone, guard, n, e)
			}
		}
	}
}

func TestP1NilTable(t *testing.T) {
	var x *Table
	for _, slot := range append(outside(), 0, 5, 11) {
		if c, e := x.Get(slot); c != (api.Cap{}) || e != api.ErrNil {
			t.Error(slot, c, e)
		}
		if x.Put(slot, api.Cap{Name: "/"}) != api.ErrNil || x.Put(slot, api.Cap{}) != api.ErrNil || x.Drop(slot) != api.ErrNil {
			t.Error(slot)
		}
		for _, to := range []int{-1, 0, 11, 12} {
			if x.Derive(slot, to, "a") != api.ErrNil || x.Derive(slot, to, "") != api.ErrNil || x.Restrict(slot, to, 1) != api.ErrNil || x.Restrict(slot, to, 255) != api.ErrNil {
				t.Error(slot, to)
			}
		}
	}
	for _, guard := range append(wrong(), api.Cap{Name: "/"}) {
		if n, e := x.Find(guard); n != 0 || e != api.ErrNil || x.Opens(guard) || len(x.Revoke(guard.Name)) != 0 {
			t.Error(guard, n, e)
		}
	}
	if n, e := x.Room(); n != 0 || e != api.ErrNil || len(x.Slots()) != 0 || x.Fork() != nil {
		t.Error(n, e)
	}
}

func TestP4Fork(t *testing.T) {
	changes := []func(*Table) bool{
		func(x *Table) bool { return x.Put(11, api.Cap{Name: "/new"}) == api.OK },
		func(x *Table) bool { return x.Drop(0) == api.OK },
		func(x *Table) bool { return x.Derive(0, 11, "new") == api.OK },
		func(x *Table) bool { return x.Restrict(0, 11, 0) == api.OK },
		func(x *Table) bool { return len(x.Revoke("/")) == 11 },
		func(x *Table) bool { return x.Drop(5) == api.OK && x.Put(5, api.Cap{Name: "/new"}) == api.OK },
	}
	want := some()[:11]
	for k, change := range changes {
		x := table(t, want...)
		f := x.Fork()
		if f == nil || f == x {
			t.Fatal(k)
		}
		same(t, "the fork", f, want...)
		if !change(f) {
			t.Error(k, "was refused")
		}
		same(t, "behind the fork's change", x, want...)
		f = x.Fork()
		change(x)
		same(t, "the fork behind a change", f, want...)
		g := f.Fork()
		change(g)
		same(t, "behind a fork's fork", f, want...)
	}
}

func TestP3ListsAreTheCallers(t *testing.T) {
	want := some()
	want[3], want[8] = "", ""
	x := table(t, want...)
	slots := x.Slots()
	a, b := x.Slots(), x.Slots()
	clear(a[:cap(a)])
	if !slices.Equal(b, slots) {
		t.Error("two answers share room")
	}
	b = append(b, 99)
	x.Drop(11)
	if !slices.Equal(b, append(slices.Clone(slots), 99)) {
		t.Error(b)
	}
	x.Put(11, parsed(t, want[11]))
	same(t, "what was handed out", x, want...)
	out := x.Revoke("/a")
	before := slices.Clone(out)
	for k := range out[:cap(out)] {
		out[:cap(out)][k] = 7
	}
	for _, slot := range before {
		want[slot] = ""
	}
	same(t, "what was revoked", x, want...)
}

// model is what is asked for, as plainly as it is said.
type model map[int]api.Cap

func (m model) get(slot int) (api.Cap, api.Errno) {
	if slot < 0 || slot > 11 {
		return api.Cap{}, api.ErrRange
	}
	c, ok := m[slot]
	if !ok {
		return api.Cap{}, api.ErrNoent
	}
	return c, api.OK
}

func (m model) put(slot int, c api.Cap) api.Errno {
	_, e := m.get(slot)
	switch {
	case e == api.ErrRange:
		return e
	case !name.Right(c):
		return api.ErrForm
	case e == api.OK:
		return api.ErrExist
	}
	m[slot] = c
	return api.OK
}

func (m model) revoke(top string) []int {
	var out []int
	for slot := range 12 {
		if c, ok := m[slot]; ok && name.Above(top, c.Name) {
			out = append(out, slot)
			delete(m, slot)
		}
	}
	return out
}

func (m model) find(guard api.Cap) (int, api.Errno) {
	for slot := range 12 {
		if c, ok := m[slot]; ok && name.Opens(c, guard) {
			return slot, api.OK
		}
	}
	return 0, api.ErrPerm
}

func (m model) texts() []string {
	l := make([]string, 12)
	for slot, c := range m {
		l[slot], _ = name.Print(c)
	}
	return l
}

// TestP9AnyOrder holds a table against the model through calls made by a rule, wrong ones among them.
func TestP9AnyOrder(t *testing.T) {
	seed := uint32(9)
	chance := func(n int) int {
		seed = seed*1664525 + 1013904223
		return int(seed>>8) % n
	}
	names := []string{"/", "/a", "/b", "/a/b", "/a/b/c", "/ab", "", "x", "/b/ω", "/a/b/c/d/e/f"}
	x, m := New(), model{}
	for range 40000 {
		slot, to := chance(14)-1, chance(14)-1
		c := api.Cap{Name: names[chance(len(names))], Rights: uint8(chance(40))}
		switch chance(9) {
		case 0, 1, 2:
			if e, want := x.Put(slot, c), m.put(slot, c); e != want {
				t.Fatal("Put", slot, c, e, want)
			}
		case 3:
			_, want := m.get(slot)
			delete(m, slot)
			if e := x.Drop(slot); e != want {
				t.Fatal("Drop", slot, e, want)
			}
		case 4, 5:
			label := []string{"a", "b", "ω", "", "A"}[chance(5)]
			d, want := m.get(slot)
			if want == api.OK {
				d, want = name.Derive(d, label)
			}
			if want == api.OK {
				want = m.put(to, d)
			}
			if e := x.Derive(slot, to, label); e != want {
				t.Fatal("Derive", slot, to, label, e, want)
			}
		case 6:
			d, want := m.get(slot)
			if want == api.OK {
				d, want = name.Restrict(d, c.Rights)
			}
			if want == api.OK {
				want = m.put(to, d)
			}
			if e := x.Restrict(slot, to, c.Rights); e != want {
				t.Fatal("Restrict", slot, to, c.Rights, e, want)
			}
		case 7:
			if chance(3) > 0 {
				continue
			}
			if got, want := x.Revoke(c.Name), m.revoke(c.Name); !slices.Equal(got, want) {
				t.Fatal("Revoke", c.Name, got, want)
			}
		case 8:
			n, e := x.Find(c)
			want, f := m.find(c)
			if n != want || e != f || x.Opens(c) != (f == api.OK) {
				t.Fatal("Find", c, n, e, want, f)
			}
		}
		same(t, "any order", x, m.texts()...)
	}
}
