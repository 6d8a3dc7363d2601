package extent

import (
	"cmp"
	"math"
	"slices"
	"strings"
	"testing"

	"embrasure/api"
	"embrasure/name"
)

// guard is one that is right.
func guard() api.Cap {
	return api.Cap{Name: "/d", Rights: api.Read}
}

// wrong are guards that are not right.
func wrong() []api.Cap {
	return []api.Cap{{}, {Rights: api.Read}, {Name: "a"}, {Name: "//"}, {Name: "/a/"}, {Name: "/A"}, {Name: "/abcdefg"}, {Name: "/a/b/c/d/e/f/g"}, {Name: "/\xff"}, {Name: "/", Rights: 32}, {Name: "/a", Rights: 255}, {Name: strings.Repeat("/a", 10000)}}
}

// ext is an extent behind guard.
func ext(id uint32, owner uint8, start, many int) api.Extent {
	return api.Extent{Id: id, Start: start, Len: many, Owner: owner, Guard: guard()}
}

// table has so many sectors, and extents, whose numbers are those that are given.
func table(t *testing.T, sectors int, l ...api.Extent) *Table {
	t.Helper()
	x := New(sectors)
	for _, v := range l {
		if id, e := x.Alloc(v.Owner, v.Start, v.Len, v.Guard); id != v.Id || e != api.OK {
			t.Fatal(v, id, e)
		}
	}
	return x
}

// outside are numbers that neither a sector nor how many they are can be.
func outside() []int {
	return []int{-1, -2, -64, -1 << 32, math.MinInt, math.MinInt + 1, 65, 256, 1 << 16, 1 << 32, 1<<32 + 1, math.MaxInt - 64, math.MaxInt - 1, math.MaxInt}
}

// told holds all that a table of so many sectors tells against its extents, in any order.
func told(t *testing.T, what string, x *Table, sectors int, want ...api.Extent) {
	t.Helper()
	want = slices.Clone(want)
	slices.SortFunc(want, func(a, b api.Extent) int { return cmp.Compare(a.Start, b.Start) })
	if got := x.List(); !slices.Equal(got, want) {
		t.Fatalf("%s: %v, not %v", what, got, want)
	}
	by := make([]api.Extent, sectors)
	var owned [256][]uint32
	greatest := uint32(0)
	for _, v := range want {
		for sector := v.Start; sector < v.Start+v.Len; sector++ {
			if by[sector].Id != 0 {
				t.Fatal(what, sector, "belongs to two")
			}
			by[sector] = v
		}
		owned[v.Owner] = append(owned[v.Owner], v.Id)
		greatest = max(greatest, v.Id)
	}
	for sector, v := range by {
		if got, ok := x.At(sector); got != v || ok != (v.Id != 0) {
			t.Fatal(what, "At", sector, got, ok)
		}
	}
	for _, sector := range append(outside(), sectors) {
		if got, ok := x.At(sector); got != (api.Extent{}) || ok {
			t.Fatal(what, "At", sector, got, ok)
		}
	}
	for _, id := range append([]uint32{math.MaxUint32, 1 << 31}, numbers(greatest+3)...) {
		k := slices.IndexFunc(want, func(v api.Extent) bool { return v.Id == id })
		if got, ok := x.Get(id); ok != (k >= 0) || ok && got != want[k] || !ok && got != (api.Extent{}) {
			t.Fatal(what, "Get", id, got, ok)
		}
	}
	for owner := range 256 {
		if got := x.Owned(uint8(owner)); !slices.Equal(got, owned[owner]) {
			t.Fatal(what, "Owned", owner, got, owned[owner])
		}
	}
	room(t, what, x, by)
}

// numbers are those from 0 up to one.
func numbers(up uint32) []uint32 {
	var l []uint32
	for id := range up {
		l = append(l, id)
	}
	return l
}

// room holds what is told of free sectors against who has which sector.
func room(t *testing.T, what string, x *Table, by []api.Extent) {
	t.Helper()
	left := 0
	for _, v := range by {
		if v.Id == 0 {
			left++
		}
	}
	if got := x.Left(); got != left {
		t.Fatal(what, "Left", got, left)
	}
	for _, many := range outside() {
		e := api.ErrSpace
		if many < 1 {
			e = api.ErrRange
		}
		if n, got := x.Room(many); n != 0 || got != e {
			t.Fatal(what, "Room", many, n, got)
		}
	}
	for many := range len(by) + 2 {
		first, e := search(by, many)
		if n, got := x.Room(many); n != first || got != e {
			t.Fatal(what, "Room", many, n, got, "not", first, e)
		}
	}
}

// search is what Room should be, tried sector by sector.
func search(by []api.Extent, many int) (int, api.Errno) {
	if many < 1 {
		return 0, api.ErrRange
	}
	for first := range by {
		if first+many <= len(by) && !slices.ContainsFunc(by[first:first+many], func(v api.Extent) bool { return v.Id != 0 }) {
			return first, api.OK
		}
	}
	return 0, api.ErrSpace
}

func TestP12_1New(t *testing.T) {
	for _, n := range append(outside(), 0) {
		if x := New(n); x != nil {
			t.Error(n)
		}
	}
	for n := 1; n <= 64; n++ {
		x := New(n)
		if x == nil {
			t.Fatal(n)
		}
		told(t, "a new one", x, n)
	}
}

func TestP12_1Example(t *testing.T) {
	x := New(10)
	if id, e := x.Alloc(0, 2, 6, guard()); id != 1 || e != api.OK {
		t.Error(id, e)
	}
	told(t, "one", x, 10, ext(1, 0, 2, 6))
	if id, e := x.Split(0, 1, 5); id != 2 || e != api.OK {
		t.Error(id, e)
	}
	told(t, "two", x, 10, ext(1, 0, 2, 3), ext(2, 0, 5, 3))
}

// TestP12_1Alloc: all sectors from any one on, of each owner, of tables of any size.
func TestP12_1Alloc(t *testing.T) {
	for _, sectors := range []int{1, 2, 5, 63, 64} {
		for start := range sectors {
			for _, many := range []int{1, 2, sectors - start - 1, sectors - start} {
				if many < 1 || start+many > sectors {
					continue
				}
				owner := uint8((start + many) % 6)
				told(t, "one", table(t, sectors, ext(1, owner, start, many)), sectors, ext(1, owner, start, many))
			}
		}
	}
}

// TestP12_1AllocGuards: any that is right, as it is told.
func TestP12_1AllocGuards(t *testing.T) {
	x := New(64)
	var want []api.Extent
	for k, text := range []string{"/ -", "/ rwxgd", "/a r", "/a/b/c/d/e/f g", "/ωωωωωω d", "/a r"} {
		c, e := name.Parse(text)
		if e != api.OK {
			t.Fatal(text)
		}
		v := api.Extent{Id: uint32(k + 1), Start: k * 10, Len: k + 1, Owner: uint8(k), Guard: c}
		if id, e := x.Alloc(v.Owner, v.Start, v.Len, v.Guard); id != v.Id || e != api.OK {
			t.Error(text, id, e)
		}
		want = append(want, v)
	}
	told(t, "guards", x, 64, want...)
}

// TestP12_1AllocRange: no sectors, sectors that are not there, sums that are too great, owners that are none; ahead of all other errors.
func TestP12_1AllocRange(t *testing.T) {
	for _, sectors := range []int{1, 5, 64} {
		x := table(t, sectors, ext(1, 0, 0, 1))
		refused := func(owner uint8, start, many int) {
			t.Helper()
			for _, g := range []api.Cap{guard(), {}} {
				if id, e := x.Alloc(owner, start, many, g); id != 0 || e != api.ErrRange {
					t.Fatal(sectors, owner, start, many, id, e)
				}
			}
		}
		for start := range sectors {
			for _, many := range append(outside(), 0, sectors-start+1, math.MaxInt-start, math.MaxInt-start+1) {
				refused(0, start, many)
			}
		}
		for _, start := range append(outside(), sectors) {
			for _, many := range append(outside(), 0, 1, 2, sectors, 1-start, sectors-start) {
				refused(0, start, many)
			}
		}
		for owner := 6; owner < 256; owner++ {
			refused(uint8(owner), 0, 1)
			refused(uint8(owner), sectors-1, 1)
		}
		told(t, "refused", x, sectors, ext(1, 0, 0, 1))
	}
}

// TestP12_1AllocForm: a guard that is not right, ahead of sectors that belong to an extent, ahead of the limit.
func TestP12_1AllocForm(t *testing.T) {
	x, want := full(t)
	for _, g := range wrong() {
		for start := range 63 {
			if id, e := x.Alloc(0, start, 2, g); id != 0 || e != api.ErrForm {
				t.Fatal(start, g, id, e)
			}
		}
	}
	told(t, "refused", x, 64, want...)
}

// full is a table of 64 sectors with MaxExtents, each of two sectors; the last ones are free.
func full(t *testing.T) (*Table, []api.Extent) {
	t.Helper()
	var l []api.Extent
	for k := range 24 {
		l = append(l, ext(uint32(k+1), uint8(k%6), 2*k, 2))
	}
	return table(t, 64, l...), l
}

// TestP12_4AllocBusy: over the beginning of one, its end, all of it, more than it, a piece of it; beside it there is room.
func TestP12_4AllocBusy(t *testing.T) {
	for start := range 12 {
		for many := 1; start+many <= 12; many++ {
			x := table(t, 12, ext(1, 0, 4, 3), ext(2, 1, 9, 1))
			want := []api.Extent{ext(1, 0, 4, 3), ext(2, 1, 9, 1)}
			over := start < 7 && start+many > 4 || start < 10 && start+many > 9
			for owner := range uint8(2) {
				id, e := x.Fork().Alloc(owner, start, many, guard())
				if over && (id != 0 || e != api.ErrBusy) || !over && (id != 3 || e != api.OK) {
					t.Fatal(owner, start, many, id, e)
				}
			}
			x.Alloc(2, start, many, guard())
			if !over {
				want = append(want, ext(3, 2, start, many))
			}
			told(t, "beside others", x, 12, want...)
		}
	}
}

// TestE7Extents: MaxExtents there are, and no more; what is busy is told first. Behind Free or Merge there is room for one.
func TestE7Extents(t *testing.T) {
	x, want := full(t)
	told(t, "all", x, 64, want...)
	for start := 48; start < 64; start++ {
		if id, e := x.Alloc(0, start, 1, guard()); id != 0 || e != api.ErrSpace {
			t.Fatal(start, id, e)
		}
		if id, e := x.Alloc(0, 47, start-46, guard()); id != 0 || e != api.ErrBusy {
			t.Fatal(start, id, e)
		}
	}
	for _, v := range want {
		if id, e := x.Split(v.Owner, v.Id, v.Start+1); id != 0 || e != api.ErrSpace {
			t.Fatal(v, id, e)
		}
		if id, e := x.Split(v.Owner, v.Id, v.Start); id != 0 || e != api.ErrRange {
			t.Fatal(v, id, e)
		}
	}
	told(t, "refused", x, 64, want...)
	if e := x.Free(3, 4); e != api.OK {
		t.Error(e)
	}
	if id, e := x.Split(1, 2, 3); id != 25 || e != api.OK {
		t.Error("the next number behind what was refused:", id, e)
	}
	if id, e := x.Alloc(0, 60, 1, guard()); id != 0 || e != api.ErrSpace {
		t.Error(id, e)
	}
	if e := x.Merge(1, 2, 25); e != api.OK {
		t.Error(e)
	}
	if id, e := x.Alloc(0, 60, 4, guard()); id != 26 || e != api.OK {
		t.Error(id, e)
	}
	told(t, "one for another", x, 64, append(slices.Delete(want, 3, 4), ext(26, 0, 60, 4))...)
}

// TestE7OfOneSector: all sectors of a small table, each an extent of its own.
func TestE7OfOneSector(t *testing.T) {
	var want []api.Extent
	for k := range 24 {
		want = append(want, ext(uint32(k+1), uint8(k%6), k*7%24, 1))
	}
	x := table(t, 24, want...)
	told(t, "all", x, 24, want...)
	if id, e := x.Alloc(0, 23, 1, guard()); id != 0 || e != api.ErrBusy {
		t.Error(id, e)
	}
}

// TestP12_2Split: at each sector of it, of one at the beginning, between others, at the end.
func TestP12_2Split(t *testing.T) {
	for start := range 5 {
		for many := 1; start+many <= 9; many++ {
			l := []api.Extent{{Id: 1, Start: start, Len: many, Owner: 4, Guard: api.Cap{Name: "/x/y", Rights: 31}}}
			if start > 0 {
				l = append(l, ext(2, 0, 0, start))
			} else {
				l = append(l, ext(2, 0, 9, 1))
			}
			for _, at := range append(outside(), 0, 1, 2, 3, 4, 5, 6, 7, 8, 9) {
				x := table(t, 10, l...)
				id, e := x.Split(4, 1, at)
				if at <= start || at >= start+many {
					if id != 0 || e != api.ErrRange {
						t.Fatal(start, many, at, id, e)
					}
					told(t, "refused", x, 10, l...)
					continue
				}
				if id != 3 || e != api.OK {
					t.Fatal(start, many, at, id, e)
				}
				a, b := l[0], l[0]
				a.Len, b.Id, b.Start, b.Len = at-start, 3, at, start+many-at
				told(t, "two", x, 10, a, b, l[1])
			}
		}
	}
}

// TestP12_5MergeTakesSplitBack: whatever lies beside it; the number is not given again.
func TestP12_5MergeTakesSplitBack(t *testing.T) {
	l := []api.Extent{ext(1, 0, 0, 3), ext(2, 1, 3, 7), ext(3, 1, 10, 4), ext(4, 1, 15, 2)}
	x := table(t, 18, l...)
	next := uint32(5)
	for _, v := range l {
		for at := v.Start + 1; at < v.Start+v.Len; at++ {
			id, e := x.Split(v.Owner, v.Id, at)
			if id != next || e != api.OK {
				t.Fatal(v, at, id, e)
			}
			if e := x.Merge(v.Owner, v.Id, id); e != api.OK {
				t.Fatal(v, at, e)
			}
			told(t, "back", x, 18, l...)
			next++
		}
	}
}

// TestP12_2Merge: two side by side, in order, with the same guard and owner; else they stay two.
func TestP12_2Merge(t *testing.T) {
	other := ext(4, 0, 6, 2)
	other.Guard.Rights = api.Write
	named := ext(5, 0, 8, 2)
	named.Guard.Name = "/d/d"
	l := []api.Extent{ext(1, 0, 4, 2), ext(2, 0, 0, 3), ext(3, 0, 3, 1), other, named, ext(6, 0, 10, 1), ext(7, 0, 12, 1), ext(8, 1, 11, 1)}
	for _, v := range l {
		for _, w := range l {
			x := table(t, 14, l...)
			e := x.Merge(0, v.Id, w.Id)
			switch [2]uint32{v.Id, w.Id} {
			case [2]uint32{2, 3}, [2]uint32{3, 1}:
				if e != api.OK {
					t.Error(v, w, e)
				}
				both := v
				both.Len += w.Len
				rest := slices.DeleteFunc(slices.Clone(l), func(u api.Extent) bool { return u.Id == v.Id || u.Id == w.Id })
				told(t, "both", x, 14, append(rest, both)...)
				if x.Free(0, w.Id) != api.ErrNoent {
					t.Error(w, "is there")
				}
				continue
			}
			want := api.ErrState
			if v.Owner != 0 || w.Owner != 0 {
				want = api.ErrPerm
			}
			if e != want {
				t.Error(v, w, e)
			}
			told(t, "still two", x, 14, l...)
		}
	}
}

// TestP12_2MergeAll: many into one, from the front and from behind.
func TestP12_2MergeAll(t *testing.T) {
	var l []api.Extent
	for k := range 8 {
		l = append(l, ext(uint32(k+1), 2, 2*k, 2))
	}
	x := table(t, 16, l...)
	for id := uint32(2); id <= 8; id++ {
		if e := x.Merge(2, 1, id); e != api.OK {
			t.Error(id, e)
		}
	}
	told(t, "from the front", x, 16, ext(1, 2, 0, 16))
	x = table(t, 16, l...)
	for id := uint32(7); id >= 1; id-- {
		if e := x.Merge(2, id, id+1); e != api.OK {
			t.Error(id, e)
		}
	}
	told(t, "from behind", x, 16, ext(1, 2, 0, 16))
}

// TestP12_2MergeErrors: all of a first, then of b, then whether they lie so.
func TestP12_2MergeErrors(t *testing.T) {
	l := []api.Extent{ext(1, 0, 0, 2), ext(2, 1, 2, 2), ext(3, 0, 6, 2)}
	x := table(t, 8, l...)
	for _, row := range []struct {
		owner uint8
		a, b  uint32
		want  api.Errno
	}{
		{0, 9, 9, api.ErrNoent}, {0, 0, 1, api.ErrNoent}, {1, 9, 1, api.ErrNoent}, {0, math.MaxUint32, 2, api.ErrNoent},
		{1, 1, 9, api.ErrPerm}, {0, 2, 9, api.ErrPerm}, {0, 2, 1, api.ErrPerm}, {6, 1, 2, api.ErrPerm}, {255, 1, 0, api.ErrPerm},
		{0, 1, 9, api.ErrNoent}, {0, 1, 0, api.ErrNoent}, {1, 2, 4, api.ErrNoent},
		{0, 1, 2, api.ErrPerm}, {1, 2, 3, api.ErrPerm}, {1, 2, 1, api.ErrPerm}, {0, 3, 2, api.ErrPerm},
		{0, 1, 3, api.ErrState}, {0, 3, 1, api.ErrState}, {0, 1, 1, api.ErrState}, {1, 2, 2, api.ErrState},
	} {
		if e := x.Merge(row.owner, row.a, row.b); e != row.want {
			t.Error(row, e)
		}
	}
	told(t, "refused", x, 8, l...)
}

// TestP12_2Free: the first, one between others, the last, the only one; once each, and the sectors are there for another one.
func TestP12_2Free(t *testing.T) {
	l := []api.Extent{ext(1, 0, 4, 2), ext(2, 1, 0, 3), ext(3, 2, 9, 1)}
	for k, v := range l {
		x := table(t, 10, l...)
		if e := x.Free(v.Owner, v.Id); e != api.OK {
			t.Error(v, e)
		}
		rest := slices.Delete(slices.Clone(l), k, k+1)
		told(t, "one less", x, 10, rest...)
		if e := x.Free(v.Owner, v.Id); e != api.ErrNoent {
			t.Error(v, e)
		}
		if id, e := x.Alloc(5, v.Start, v.Len, v.Guard); id != 4 || e != api.OK {
			t.Error(v, id, e)
		}
		told(t, "another one's", x, 10, append(rest, ext(4, 5, v.Start, v.Len))...)
	}
	x := table(t, 10, l...)
	for _, v := range l {
		x.Free(v.Owner, v.Id)
	}
	told(t, "none", x, 10)
	if id, e := x.Alloc(0, 0, 10, guard()); id != 4 || e != api.OK {
		t.Error(id, e)
	}
}

// TestP12_6Others: what is not there, ahead of what is another one's, ahead of all else; nobody else does anything with an extent.
func TestP12_6Others(t *testing.T) {
	l := []api.Extent{ext(1, 0, 2, 3), ext(2, 5, 6, 3)}
	x := table(t, 12, l...)
	refused := func(owner uint8, id uint32, want api.Errno) {
		t.Helper()
		for _, n := range append(outside(), 0, 1, 3, 4, 7, 12) {
			if id, e := x.Split(owner, id, n); id != 0 || e != want {
				t.Fatal("Split", owner, n, id, e)
			}
			if e := x.Grow(owner, id, n); e != want {
				t.Fatal("Grow", owner, id, n, e)
			}
		}
		for _, to := range []uint8{0, owner, 5, 6, 255} {
			if e := x.Give(owner, id, to); e != want {
				t.Fatal("Give", owner, id, to, e)
			}
		}
		for _, other := range []uint32{0, 1, 2, 3, id} {
			if e := x.Merge(owner, id, other); e != want {
				t.Fatal("Merge", owner, id, other, e)
			}
		}
		if e := x.Free(owner, id); e != want {
			t.Fatal("Free", owner, id, e)
		}
	}
	for owner := range 256 {
		for _, id := range []uint32{0, 3, 4, 1 << 16, 1<<16 + 1, math.MaxUint32} {
			refused(uint8(owner), id, api.ErrNoent)
		}
		if owner != 0 {
			refused(uint8(owner), 1, api.ErrPerm)
		}
		if owner != 5 {
			refused(uint8(owner), 2, api.ErrPerm)
		}
	}
	told(t, "refused", x, 12, l...)
}

// TestP12_2Give: to each, also to oneself; it is the other one's alone then.
func TestP12_2Give(t *testing.T) {
	for owner := range uint8(6) {
		for to := range uint8(6) {
			x := table(t, 9, ext(1, owner, 2, 3), ext(2, owner, 6, 1))
			if e := x.Give(owner, 1, to); e != api.OK {
				t.Fatal(owner, to, e)
			}
			told(t, "given", x, 9, ext(1, to, 2, 3), ext(2, owner, 6, 1))
			if e := x.Grow(owner, 1, 1); owner != to && e != api.ErrPerm || owner == to && e != api.OK {
				t.Fatal(owner, to, e)
			}
			if e := x.Free(to, 1); e != api.OK {
				t.Fatal(owner, to, e)
			}
		}
	}
	x := table(t, 9, ext(1, 3, 2, 3))
	for to := 6; to < 256; to++ {
		if e := x.Give(3, 1, uint8(to)); e != api.ErrRange {
			t.Fatal(to, e)
		}
	}
	told(t, "refused", x, 9, ext(1, 3, 2, 3))
}

// TestP12_2Grow: up to the next one, and into it; up to the last sector, and over it.
func TestP12_2Grow(t *testing.T) {
	for _, next := range []int{0, 5, 6, 8, 11} {
		for _, by := range append(outside(), 0, 1, 2, 3, 4, 5, 6, 7, 8, 9, math.MaxInt-4, math.MaxInt-5, math.MaxInt-6) {
			l := []api.Extent{ext(1, 2, 2, 3), ext(2, 2, 0, 2)}
			end := 12
			if next > 0 {
				l = append(l, ext(3, 2, next, 1))
				end = next
			}
			x := table(t, 12, l...)
			want := api.OK
			switch {
			case by < 1 || by > 7:
				want = api.ErrRange
			case 5+by > end:
				want = api.ErrBusy
			default:
				l[0].Len += by
			}
			if e := x.Grow(2, 1, by); e != want {
				t.Fatal(next, by, e, want)
			}
			told(t, "longer", x, 12, l...)
		}
	}
	x := table(t, 64, ext(1, 0, 0, 64))
	for _, by := range []int{0, 1, 64, math.MaxInt} {
		if e := x.Grow(0, 1, by); e != api.ErrRange {
			t.Error(by, e)
		}
	}
	x = table(t, 64, ext(1, 0, 63, 1), ext(2, 0, 0, 1))
	if x.Grow(0, 1, 1) != api.ErrRange || x.Grow(0, 2, 63) != api.ErrBusy || x.Grow(0, 2, 62) != api.OK {
		t.Error("the last sector")
	}
	told(t, "the last sector", x, 64, ext(1, 0, 63, 1), ext(2, 0, 0, 63))
}

// TestP12_2GrowThenMore: what grew is split, merged, and freed with all that it has.
func TestP12_2GrowThenMore(t *testing.T) {
	x := table(t, 10, ext(1, 0, 1, 2), ext(2, 0, 6, 1))
	if x.Grow(0, 1, 3) != api.OK || x.Merge(0, 1, 2) != api.OK {
		t.Error("refused")
	}
	told(t, "up to the next one", x, 10, ext(1, 0, 1, 6))
	if id, e := x.Split(0, 1, 6); id != 3 || e != api.OK {
		t.Error(id, e)
	}
	told(t, "split", x, 10, ext(1, 0, 1, 5), ext(3, 0, 6, 1))
	if x.Grow(0, 1, 1) != api.ErrBusy || x.Grow(0, 3, 3) != api.OK || x.Free(0, 1) != api.OK {
		t.Error("behind Split")
	}
	told(t, "the rest", x, 10, ext(3, 0, 6, 4))
}

// TestP12_3Room: the first gap that is great enough, though others are greater.
func TestP12_3Room(t *testing.T) {
	x := table(t, 20, ext(1, 0, 1, 2), ext(2, 0, 5, 3), ext(3, 0, 12, 1), ext(4, 0, 15, 1))
	for many, want := range []int{0, 0, 3, 8, 8} {
		e := api.OK
		if many == 0 {
			e = api.ErrRange
		}
		if n, got := x.Room(many); n != want || got != e {
			t.Error(many, n, got)
		}
	}
	for _, many := range []int{5, 11, 20, 21, 64, 65, math.MaxInt} {
		if n, e := x.Room(many); n != 0 || e != api.ErrSpace {
			t.Error(many, n, e)
		}
	}
	if n := x.Left(); n != 13 {
		t.Error(n)
	}
	if id, e := x.Alloc(1, 8, 4, guard()); id != 5 || e != api.OK {
		t.Error(id, e)
	}
	if n, e := x.Room(4); n != 16 || e != api.OK {
		t.Error(n, e)
	}
	all := table(t, 3, ext(1, 0, 0, 3))
	if n, e := all.Room(1); n != 0 || e != api.ErrSpace || all.Left() != 0 {
		t.Error(n, e, all.Left())
	}
}

// TestP12_3RoomIsRoom: what is told is what Alloc takes, as long as there is any.
func TestP12_3RoomIsRoom(t *testing.T) {
	x := table(t, 30, ext(1, 0, 3, 1), ext(2, 0, 9, 2), ext(3, 0, 20, 1))
	for {
		start, e := x.Room(3)
		if e != api.OK {
			break
		}
		if _, e := x.Alloc(1, start, 3, guard()); e != api.OK {
			t.Fatal(start, e)
		}
	}
	if n := x.Left(); n != 2 {
		t.Error(n)
	}
}

// TestP12_3BySectors: not by the numbers, whatever the order in which they came.
func TestP12_3BySectors(t *testing.T) {
	x := New(64)
	for k := range 20 {
		if id, e := x.Alloc(uint8(k%2), k*7%20*3, 2, guard()); id != uint32(k+1) || e != api.OK {
			t.Fatal(k, id, e)
		}
	}
	l := x.List()
	if len(l) != 20 || !slices.IsSortedFunc(l, func(a, b api.Extent) int { return cmp.Compare(a.Start, b.Start) }) {
		t.Error(l)
	}
	var owned [2][]uint32
	for _, v := range l {
		owned[v.Owner] = append(owned[v.Owner], v.Id)
	}
	for owner, want := range owned {
		if got := x.Owned(uint8(owner)); len(got) != 10 || !slices.Equal(got, want) || slices.IsSorted(got) {
			t.Error(owner, got, want)
		}
	}
}

// TestP12_1Numbers: they rise by 1 with each extent that is made, by nothing else, and none is given again.
func TestP12_1Numbers(t *testing.T) {
	x := New(8)
	for want := uint32(1); want < 2000; want += 2 {
		x.Alloc(0, 0, 9, guard())
		x.Alloc(0, 0, 1, api.Cap{})
		id, e := x.Alloc(0, 2, 4, guard())
		if id != want || e != api.OK {
			t.Fatal(want, id, e)
		}
		x.Alloc(0, 5, 1, guard())
		x.Split(0, id, 2)
		x.Split(1, id, 3)
		other, e := x.Split(0, id, 4)
		if other != want+1 || e != api.OK {
			t.Fatal(want, other, e)
		}
		if want%4 == 1 {
			x.Merge(0, id, other)
		} else {
			x.Free(0, other)
		}
		x.Free(0, id)
		told(t, "none", x, 8)
	}
}

func TestP1NilTable(t *testing.T) {
	var x *Table
	for _, n := range append(outside(), 0, 1) {
		for _, owner := range []uint8{0, 5, 6, 255} {
			if id, e := x.Alloc(owner, n, n, guard()); id != 0 || e != api.ErrNil {
				t.Error(id, e)
			}
			if id, e := x.Alloc(owner, n, 1, api.Cap{}); id != 0 || e != api.ErrNil {
				t.Error(id, e)
			}
			if id, e := x.Split(owner, uint32(n), n); id != 0 || e != api.ErrNil {
				t.Error(id, e)
			}
			if x.Merge(owner, uint32(n), 1) != api.ErrNil || x.Free(owner, uint32(n)) != api.ErrNil || x.Give(owner, uint32(n), owner) != api.ErrNil || x.Grow(owner, uint32(n), n) != api.ErrNil {
				t.Error(owner, n)
			}
			if len(x.Owned(owner)) != 0 {
				t.Error(owner)
			}
		}
		if v, ok := x.Get(uint32(n)); v != (api.Extent{}) || ok {
			t.Error(v, ok)
		}
		if v, ok := x.At(n); v != (api.Extent{}) || ok {
			t.Error(v, ok)
		}
		if n, e := x.Room(n); n != 0 || e != api.ErrNil {
			t.Error(n, e)
		}
	}
	if len(x.List()) != 0 || x.Left() != 0 || x.Fork() != nil {
		t.Error(x.List(), x.Left())
	}
}

// changes are all calls that change the table of TestP4Fork; each tells whether it did.
func changes() []func(*Table) bool {
	return []func(*Table) bool{
		func(x *Table) bool { id, e := x.Alloc(1, 11, 1, guard()); return id == 4 && e == api.OK },
		func(x *Table) bool { id, e := x.Alloc(1, 0, 1, guard()); return id == 4 && e == api.OK },
		func(x *Table) bool { id, e := x.Split(0, 1, 3); return id == 4 && e == api.OK },
		func(x *Table) bool { return x.Merge(0, 1, 2) == api.OK },
		func(x *Table) bool { return x.Free(0, 1) == api.OK },
		func(x *Table) bool { return x.Free(5, 3) == api.OK },
		func(x *Table) bool { return x.Give(0, 2, 3) == api.OK },
		func(x *Table) bool { return x.Grow(5, 3, 1) == api.OK },
	}
}

func TestP4Fork(t *testing.T) {
	l := []api.Extent{ext(1, 0, 1, 3), ext(2, 0, 4, 2), ext(3, 5, 8, 2)}
	for k, change := range changes() {
		x := table(t, 12, l...)
		f := x.Fork()
		if f == nil || f == x {
			t.Fatal(k)
		}
		told(t, "the fork", f, 12, l...)
		if !change(f) {
			t.Error(k, "was refused")
		}
		told(t, "behind the fork's change", x, 12, l...)
		f = x.Fork()
		if !change(x) {
			t.Error(k, "was refused")
		}
		told(t, "the fork behind a change", f, 12, l...)
		g := f.Fork()
		if !change(g) {
			t.Error(k, "was refused")
		}
		told(t, "behind a fork's fork", f, 12, l...)
		if !change(f) || !slices.Equal(f.List(), g.List()) || !slices.Equal(f.List(), x.List()) {
			t.Error(k, "the same goes on otherwise", f.List(), g.List(), x.List())
		}
	}
}

// TestP4ForkNumbers: both go on from the same number, each by itself.
func TestP4ForkNumbers(t *testing.T) {
	x := table(t, 12, ext(1, 0, 0, 1), ext(2, 0, 1, 1))
	x.Free(0, 2)
	f := x.Fork()
	for want := uint32(3); want < 6; want++ {
		if id, e := f.Alloc(0, int(want), 1, guard()); id != want || e != api.OK {
			t.Error(id, e)
		}
	}
	if id, e := x.Alloc(0, 7, 1, guard()); id != 3 || e != api.OK {
		t.Error(id, e)
	}
	told(t, "the fork of a small one", New(3).Fork(), 3)
}

func TestP3ListsAreTheCallers(t *testing.T) {
	want := []api.Extent{ext(1, 0, 1, 2), ext(2, 0, 4, 2), ext(3, 0, 8, 2)}
	x := table(t, 12, want...)
	a, b, c := x.List(), x.List(), x.Fork().List()
	clear(a[:cap(a)])
	if !slices.Equal(b, want) || !slices.Equal(c, want) {
		t.Error("answers share room", b, c)
	}
	n, m := x.Owned(0), x.Owned(0)
	clear(n[:cap(n)])
	if !slices.Equal(m, []uint32{1, 2, 3}) {
		t.Error("answers share room", m)
	}
	told(t, "what was handed out", x, 12, want...)
	d, o := append(x.List(), ext(9, 5, 0, 1)), append(x.Owned(0), 9)
	x.Free(0, 2)
	x.Give(0, 1, 4)
	x.Grow(0, 3, 2)
	if !slices.Equal(b, want) || !slices.Equal(d[:3], want) || d[3] != ext(9, 5, 0, 1) || !slices.Equal(m, []uint32{1, 2, 3}) || !slices.Equal(o, []uint32{1, 2, 3, 9}) {
		t.Error("what was handed out changes", b, d, m, o)
	}
	told(t, "behind what was appended", x, 12, ext(1, 4, 1, 2), ext(3, 0, 8, 4))
}

// model is what is asked for, as plainly as it is said: of each sector the number of its extent, and of each number the owner and the guard.
type model struct {
	by    []uint32
	owner map[uint32]uint8
	guard map[uint32]api.Cap
	last  uint32
}

func (m *model) extents() []api.Extent {
	var l []api.Extent
	for sector, id := range m.by {
		if id == 0 {
			continue
		}
		if len(l) > 0 && l[len(l)-1].Id == id {
			l[len(l)-1].Len++
			continue
		}
		l = append(l, api.Extent{Id: id, Start: sector, Len: 1, Owner: m.owner[id], Guard: m.guard[id]})
	}
	return l
}

func (m *model) get(id uint32) api.Extent {
	for _, v := range m.extents() {
		if v.Id == id {
			return v
		}
	}
	return api.Extent{}
}

// set lets sectors belong to an extent; 0: to nobody.
func (m *model) set(start, many int, id uint32) {
	for sector := start; sector < start+many; sector++ {
		m.by[sector] = id
	}
}

func (m *model) busy(start, many int) bool {
	return slices.ContainsFunc(m.by[start:start+many], func(id uint32) bool { return id != 0 })
}

func (m *model) next(owner uint8, start, many int, g api.Cap) (uint32, api.Errno) {
	if len(m.owner) == 24 {
		return 0, api.ErrSpace
	}
	m.last++
	m.owner[m.last], m.guard[m.last] = owner, g
	m.set(start, many, m.last)
	return m.last, api.OK
}

func (m *model) end(id uint32) {
	delete(m.owner, id)
	delete(m.guard, id)
}

func (m *model) had(owner uint8, id uint32) api.Errno {
	by, ok := m.owner[id]
	switch {
	case !ok:
		return api.ErrNoent
	case by != owner:
		return api.ErrPerm
	}
	return api.OK
}

func (m *model) alloc(owner uint8, start, many int, g api.Cap) (uint32, api.Errno) {
	switch {
	case many < 1 || start < 0 || start+many > len(m.by) || owner >= 6:
		return 0, api.ErrRange
	case !name.Right(g):
		return 0, api.ErrForm
	case m.busy(start, many):
		return 0, api.ErrBusy
	}
	return m.next(owner, start, many, g)
}

func (m *model) split(owner uint8, id uint32, at int) (uint32, api.Errno) {
	if e := m.had(owner, id); e != api.OK {
		return 0, e
	}
	v := m.get(id)
	if at <= v.Start || at >= v.Start+v.Len {
		return 0, api.ErrRange
	}
	return m.next(owner, at, v.Start+v.Len-at, v.Guard)
}

func (m *model) merge(owner uint8, a, b uint32) api.Errno {
	if e := m.had(owner, a); e != api.OK {
		return e
	}
	if e := m.had(owner, b); e != api.OK {
		return e
	}
	v, w := m.get(a), m.get(b)
	if v.Start+v.Len != w.Start || v.Guard.Name != w.Guard.Name || v.Guard.Rights != w.Guard.Rights {
		return api.ErrState
	}
	m.set(w.Start, w.Len, a)
	m.end(b)
	return api.OK
}

func (m *model) free(owner uint8, id uint32) api.Errno {
	e := m.had(owner, id)
	if e == api.OK {
		v := m.get(id)
		m.set(v.Start, v.Len, 0)
		m.end(id)
	}
	return e
}

func (m *model) give(owner uint8, id uint32, to uint8) api.Errno {
	e := m.had(owner, id)
	if e == api.OK && to >= 6 {
		return api.ErrRange
	}
	if e == api.OK {
		m.owner[id] = to
	}
	return e
}

func (m *model) grow(owner uint8, id uint32, by int) api.Errno {
	if e := m.had(owner, id); e != api.OK {
		return e
	}
	v := m.get(id)
	end := v.Start + v.Len
	switch {
	case by < 1 || end+by > len(m.by):
		return api.ErrRange
	case m.busy(end, by):
		return api.ErrBusy
	}
	m.set(end, by, id)
	return api.OK
}

// play makes one call of a table and of the model, made by chance, wrong ones among them, and holds their answers against each other.
func play(t *testing.T, x *Table, m *model, kind int, chance func(int) int) api.Errno {
	t.Helper()
	owner := uint8(chance(3))
	some := func() uint32 {
		if l := m.extents(); len(l) > 0 && chance(10) > 0 {
			v := l[chance(len(l))]
			owner = v.Owner + uint8(chance(4)/3)
			return v.Id
		}
		return uint32(chance(int(m.last) + 3))
	}
	var id, number uint32
	var e, want api.Errno
	switch kind {
	case 0:
		start, many := chance(len(m.by)+3)-1, chance(4)
		owner += uint8(chance(20) / 19 * 4)
		g := []api.Cap{guard(), guard(), guard(), {Name: "/d"}, {Name: "/a/β", Rights: 31}, {Name: "/A"}}[chance(6)]
		id, e = x.Alloc(owner, start, many, g)
		number, want = m.alloc(owner, start, many, g)
	case 1:
		a := some()
		at := m.get(a).Start + chance(m.get(a).Len+2)
		id, e = x.Split(owner, a, at)
		number, want = m.split(owner, a, at)
	case 2:
		b, a := some(), some()
		if end := m.get(a).Start + m.get(a).Len; end < len(m.by) && chance(3) > 0 {
			b = m.by[end]
		}
		e, want = x.Merge(owner, a, b), m.merge(owner, a, b)
	case 3:
		a := some()
		e, want = x.Free(owner, a), m.free(owner, a)
	case 4:
		a, to := some(), uint8(chance(3)+chance(20)/19*4)
		e, want = x.Give(owner, a, to), m.give(owner, a, to)
	case 5:
		a, by := some(), chance(5)-1
		e, want = x.Grow(owner, a, by), m.grow(owner, a, by)
	}
	if id != number || e != want {
		t.Fatal(kind, owner, id, e, "not", number, want)
	}
	return e
}

// TestP12_4AnyOrder holds tables against the model through many calls (E1, E2): no sector belongs to two, whatever is called.
func TestP12_4AnyOrder(t *testing.T) {
	seed := uint32(12)
	chance := func(n int) int {
		seed = seed*1664525 + 1013904223
		return int(seed>>8) % n
	}
	for _, sectors := range []int{1, 9, 30, 64} {
		x, m := New(sectors), &model{by: make([]uint32, sectors), owner: map[uint32]uint8{}, guard: map[uint32]api.Cap{}}
		done, space := [6]int{}, 0
		for range 3000 {
			kind := []int{0, 0, 0, 0, 1, 1, 2, 2, 2, 3, 4, 5}[chance(12)]
			switch play(t, x, m, kind, chance) {
			case api.OK:
				done[kind]++
			case api.ErrSpace:
				space++
			}
			told(t, "any order", x, sectors, m.extents()...)
			if chance(50) == 0 {
				x = x.Fork()
			}
		}
		if sectors > 1 && slices.Min(done[:]) < 15 || sectors == 64 && space == 0 {
			t.Error(sectors, done, space, "is little")
		}
	}
}
