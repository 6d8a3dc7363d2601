package tlb

import (
	"slices"
	"testing"

	"embrasure/api"
)

// put takes mappings in that are right.
func put(t *testing.T, x *Tlb, l ...api.Mapping) {
	t.Helper()
	for _, m := range l {
		if _, _, e := x.Insert(m); e != api.OK {
			t.Fatal(m, e)
		}
	}
}

// full are as many as there may be, of several address spaces, frames and both kinds.
func full() []api.Mapping {
	return []api.Mapping{
		{Asid: 1, Page: 0, Frame: 10},
		{Asid: 2, Page: 0, Frame: 11, Write: true},
		{Asid: 1, Page: 1, Frame: 10, Write: true},
		{Asid: 1, Page: 15, Frame: 63},
		{Asid: 0, Page: 0, Frame: 0},
		{Asid: 255, Page: 15, Frame: 10},
		{Asid: 2, Page: 1, Frame: 12},
		{Asid: 0, Page: 1, Frame: 0, Write: true},
	}
}

// filled is a Tlb with them.
func filled(t *testing.T) *Tlb {
	t.Helper()
	x := New()
	put(t, x, full()...)
	return x
}

// same holds what is at hand against what is asked for, in order.
func same(t *testing.T, what string, x *Tlb, want []api.Mapping) {
	t.Helper()
	if got := x.List(); !slices.Equal(got, want) {
		t.Fatalf("%s: %v, not %v", what, got, want)
	}
}

// without is a list less its i-th, with others behind it.
func without(l []api.Mapping, i int, behind ...api.Mapping) []api.Mapping {
	return append(slices.Concat(l[:i], l[i+1:]), behind...)
}

func TestP7_1New(t *testing.T) {
	x := New()
	if x == nil || len(x.List()) != 0 {
		t.Fatal(x)
	}
	for n := range 256 {
		a := uint8(n)
		if m, ok := x.Find(a, a); m != (api.Mapping{}) || ok || x.Drop(a, a) || x.Asid(a) != 0 || x.Frame(a) != 0 || x.Protect(a, a, true) {
			t.Error(n, m, ok)
		}
		if f, o, e := x.Translate(a, api.Word(n), false); f != 0 || o != 0 || e != api.ErrFault {
			t.Error(n, f, o, e)
		}
	}
	same(t, "nothing came", x, nil)
	put(t, x, full()...)
	same(t, "the next one", New(), nil)
}

func TestP7_2Example(t *testing.T) {
	x := New()
	put(t, x, api.Mapping{Page: 1, Frame: 9})
	if f, o, e := x.Translate(0, 37, false); f != 9 || o != 5 || e != api.OK {
		t.Error(f, o, e)
	}
}

// TestP7_1InsertUpToAll: as long as there is room, none goes.
func TestP7_1InsertUpToAll(t *testing.T) {
	x := New()
	for k, m := range full() {
		if gone, did, e := x.Insert(m); gone != (api.Mapping{}) || did || e != api.OK {
			t.Error(k, gone, did, e)
		}
		same(t, "so far", x, full()[:k+1])
	}
	if len(full()) != api.TlbSize {
		t.Error(len(full()))
	}
}

// TestP7_1InsertOneMore: of a page that is not at hand, with all there, the first one goes, again and again.
func TestP7_1InsertOneMore(t *testing.T) {
	x, want := filled(t), full()
	for k := range 40 {
		m := api.Mapping{Asid: uint8(100 + k), Page: uint8(k % 16), Frame: uint8(k), Write: k%3 == 0}
		gone, did, e := x.Insert(m)
		if gone != want[0] || !did || e != api.OK {
			t.Fatal(k, gone, did, e)
		}
		want = without(want, 0, m)
		same(t, "one more", x, want)
	}
}

// TestP7_1InsertSamePage: the one of the same page goes, wherever it stands and however many there are, and no other one.
func TestP7_1InsertSamePage(t *testing.T) {
	for many := 1; many <= 8; many++ {
		for k := range many {
			old := full()[k]
			for _, m := range []api.Mapping{
				old,
				{Asid: old.Asid, Page: old.Page, Frame: 40, Write: old.Write},
				{Asid: old.Asid, Page: old.Page, Frame: old.Frame, Write: !old.Write},
			} {
				x := New()
				put(t, x, full()[:many]...)
				if gone, did, e := x.Insert(m); gone != old || !did || e != api.OK {
					t.Fatal(many, k, gone, did, e)
				}
				same(t, "the same page", x, without(full()[:many], k, m))
			}
		}
	}
}

// TestP7_1InsertWrong: a page and a frame that are none are refused, whether there is room or not, and nothing changes.
func TestP7_1InsertWrong(t *testing.T) {
	for _, many := range []int{0, 3, 8} {
		x := New()
		put(t, x, full()[:many]...)
		for page := range 256 {
			for frame := range 256 {
				if page < 16 && frame < 64 {
					continue
				}
				m := api.Mapping{Asid: 1, Page: uint8(page), Frame: uint8(frame), Write: true}
				if gone, did, e := x.Insert(m); gone != (api.Mapping{}) || did || e != api.ErrRange {
					t.Fatal(m, gone, did, e)
				}
			}
		}
		same(t, "refused", x, full()[:many])
	}
}

// TestP7_1InsertEdges: every page, every frame and every address space that is one is taken in.
func TestP7_1InsertEdges(t *testing.T) {
	for page := range 16 {
		for frame := range 64 {
			m := api.Mapping{Asid: uint8(page*16 + frame%16), Page: uint8(page), Frame: uint8(frame)}
			x := New()
			if gone, did, e := x.Insert(m); gone != (api.Mapping{}) || did || e != api.OK {
				t.Fatal(m, gone, did, e)
			}
			same(t, "an edge", x, []api.Mapping{m})
		}
	}
}

func TestP7_1Find(t *testing.T) {
	x := filled(t)
	for asid := range 256 {
		for page := range 256 {
			var want api.Mapping
			there := false
			for _, m := range full() {
				if int(m.Asid) == asid && int(m.Page) == page {
					want, there = m, true
				}
			}
			if m, ok := x.Find(uint8(asid), uint8(page)); m != want || ok != there {
				t.Fatal(asid, page, m, ok)
			}
		}
	}
	same(t, "looked at", x, full())
}

func TestP7_1Drop(t *testing.T) {
	for k, m := range full() {
		x := filled(t)
		if !x.Drop(m.Asid, m.Page) {
			t.Error(m)
		}
		want := without(full(), k)
		same(t, "dropped", x, want)
		if x.Drop(m.Asid, m.Page) {
			t.Error(m, "twice")
		}
		if _, ok := x.Find(m.Asid, m.Page); ok {
			t.Error(m, "is there")
		}
		same(t, "dropped once more", x, want)
		gone, did, e := x.Insert(m)
		if gone != (api.Mapping{}) || did || e != api.OK {
			t.Error(gone, did, e)
		}
		same(t, "taken in once more", x, append(want, m))
	}
}

func TestP7_1DropOfNone(t *testing.T) {
	x := filled(t)
	for _, p := range [][2]uint8{{1, 2}, {2, 15}, {3, 0}, {255, 0}, {255, 255}, {1, 16}, {1, 17}, {0, 255}, {15, 1}} {
		if x.Drop(p[0], p[1]) {
			t.Error(p)
		}
	}
	same(t, "of none", x, full())
}

// TestP7_1Asid: of none, of one, of several, of all.
func TestP7_1Asid(t *testing.T) {
	for asid, many := range map[uint8]int{0: 2, 1: 3, 2: 2, 255: 1, 3: 0, 10: 0, 254: 0} {
		x := filled(t)
		if n := x.Asid(asid); n != many {
			t.Error(asid, n)
		}
		want := slices.DeleteFunc(full(), func(m api.Mapping) bool { return m.Asid == asid })
		same(t, "an address space", x, want)
		if n := x.Asid(asid); n != 0 {
			t.Error(asid, n, "twice")
		}
		same(t, "an address space, twice", x, want)
	}
	x := New()
	for page := range uint8(8) {
		put(t, x, api.Mapping{Asid: 7, Page: page, Frame: 1})
	}
	if n := x.Asid(7); n != 8 || len(x.List()) != 0 {
		t.Error(n, x.List())
	}
}

// TestP7_4Frame: of none, of one, of several, of all; behind it none leads there.
func TestP7_4Frame(t *testing.T) {
	for frame, many := range map[uint8]int{0: 2, 10: 3, 11: 1, 12: 1, 63: 1, 1: 0, 62: 0, 64: 0, 255: 0} {
		x := filled(t)
		if n := x.Frame(frame); n != many {
			t.Error(frame, n)
		}
		want := slices.DeleteFunc(full(), func(m api.Mapping) bool { return m.Frame == frame })
		same(t, "a frame", x, want)
		for _, m := range full() {
			f, _, e := x.Translate(m.Asid, api.Word(m.Page)*32, false)
			if (e == api.OK) != (m.Frame != frame) || e == api.OK && f == int(frame) {
				t.Error(frame, m, f, e)
			}
		}
		if n := x.Frame(frame); n != 0 {
			t.Error(frame, n, "twice")
		}
		same(t, "a frame, twice", x, want)
	}
	x := New()
	for page := range uint8(8) {
		put(t, x, api.Mapping{Asid: page, Page: page, Frame: 33})
	}
	if n := x.Frame(33); n != 8 || len(x.List()) != 0 {
		t.Error(n, x.List())
	}
}

// TestP7_2Translate: every address, of every page, that is at hand and that is not, with write and without.
func TestP7_2Translate(t *testing.T) {
	x := filled(t)
	for _, asid := range []uint8{0, 1, 2, 3, 254, 255} {
		for n := range 65536 {
			m, there := x.Find(asid, uint8(min(n/32, 255)))
			for _, write := range []bool{false, true} {
				frame, off, want := int(m.Frame), n%32, api.OK
				if n >= 512 {
					frame, off, want = 0, 0, api.ErrRange
				} else if !there || write && !m.Write {
					frame, off, want = 0, 0, api.ErrFault
				}
				if f, o, e := x.Translate(asid, api.Word(n), write); f != frame || o != off || e != want {
					t.Fatal(asid, n, write, f, o, e)
				}
			}
		}
	}
	same(t, "translated", x, full())
}

// TestP7_2TranslateEdges: the first and the last byte of a page, the last address, and just behind it.
func TestP7_2TranslateEdges(t *testing.T) {
	x := New()
	put(t, x, api.Mapping{Asid: 4, Page: 3, Frame: 7}, api.Mapping{Asid: 4, Page: 15, Frame: 63, Write: true}, api.Mapping{Asid: 5, Page: 0, Frame: 1, Write: true})
	for _, c := range []struct {
		asid       uint8
		addr       api.Word
		write      bool
		frame, off int
		e          api.Errno
	}{
		{4, 95, false, 0, 0, api.ErrFault},
		{4, 96, false, 7, 0, api.OK},
		{4, 96, true, 0, 0, api.ErrFault},
		{4, 127, false, 7, 31, api.OK},
		{4, 127, true, 0, 0, api.ErrFault},
		{4, 128, false, 0, 0, api.ErrFault},
		{4, 479, true, 0, 0, api.ErrFault},
		{4, 480, true, 63, 0, api.OK},
		{4, 511, false, 63, 31, api.OK},
		{4, 511, true, 63, 31, api.OK},
		{4, 512, false, 0, 0, api.ErrRange},
		{4, 512, true, 0, 0, api.ErrRange},
		{5, 0, false, 1, 0, api.OK},
		{5, 0, true, 1, 0, api.OK},
		{5, 31, true, 1, 31, api.OK},
		{5, 32, false, 0, 0, api.ErrFault},
		{5, 512, false, 0, 0, api.ErrRange},
		{5, 8192, false, 0, 0, api.ErrRange}, // page 256, which would be page 0 in eight bits
		{5, 65535, true, 0, 0, api.ErrRange},
		{6, 96, false, 0, 0, api.ErrFault},
		{6, 65535, false, 0, 0, api.ErrRange},
	} {
		if f, o, e := x.Translate(c.asid, c.addr, c.write); f != c.frame || o != c.off || e != c.e {
			t.Error(c, f, o, e)
		}
	}
}

// TestP7_2Protect: there and back, of each; it stays where it stands, and the others stay as they are.
func TestP7_2Protect(t *testing.T) {
	for k, m := range full() {
		x := filled(t)
		for _, write := range []bool{true, false, false, true, true} {
			if !x.Protect(m.Asid, m.Page, write) {
				t.Error(m, write)
			}
			want := full()
			want[k].Write = write
			same(t, "protected", x, want)
			f, _, e := x.Translate(m.Asid, api.Word(m.Page)*32, true)
			if write && (f != int(m.Frame) || e != api.OK) || !write && (f != 0 || e != api.ErrFault) {
				t.Error(m, write, f, e)
			}
			if f, _, e := x.Translate(m.Asid, api.Word(m.Page)*32, false); f != int(m.Frame) || e != api.OK {
				t.Error(m, write, f, e)
			}
		}
	}
	x := filled(t)
	for _, p := range [][2]uint8{{1, 2}, {2, 15}, {3, 0}, {255, 0}, {255, 255}, {1, 16}, {1, 17}, {0, 255}} {
		if x.Protect(p[0], p[1], true) || x.Protect(p[0], p[1], false) {
			t.Error(p)
		}
	}
	same(t, "of none", x, full())
}

// TestP7_2ListOrder: as they were taken in, whatever their pages and frames are.
func TestP7_2ListOrder(t *testing.T) {
	x := New()
	var want []api.Mapping
	for k := range uint8(8) {
		m := api.Mapping{Asid: 9 - k%3, Page: 15 - k, Frame: 60 - 7*k, Write: k%2 == 0}
		put(t, x, m)
		want = append(want, m)
		same(t, "falling", x, want)
	}
}

func TestP1NilTlb(t *testing.T) {
	var x *Tlb
	for n := range 256 {
		a := uint8(n)
		for _, write := range []bool{false, true} {
			if m, did, e := x.Insert(api.Mapping{Asid: a, Page: a, Frame: a, Write: write}); m != (api.Mapping{}) || did || e != api.ErrNil {
				t.Error(n, m, did, e)
			}
			if f, o, e := x.Translate(a, api.Word(n)*256, write); f != 0 || o != 0 || e != api.ErrNil {
				t.Error(n, f, o, e)
			}
			if x.Protect(a, a, write) {
				t.Error(n)
			}
		}
		if m, ok := x.Find(a, a); m != (api.Mapping{}) || ok || x.Drop(a, a) || x.Asid(a) != 0 || x.Frame(a) != 0 {
			t.Error(n, m, ok)
		}
	}
	if len(x.List()) != 0 || x.Fork() != nil {
		t.Error(x.List(), x.Fork())
	}
}

func TestP4Fork(t *testing.T) {
	changes := []func(*Tlb){
		func(x *Tlb) { x.Insert(api.Mapping{Asid: 77, Page: 7, Frame: 7}) },
		func(x *Tlb) { x.Insert(api.Mapping{Asid: 1, Page: 1, Frame: 50}) },
		func(x *Tlb) { x.Drop(1, 0) },
		func(x *Tlb) { x.Asid(1) },
		func(x *Tlb) { x.Frame(10) },
		func(x *Tlb) { x.Protect(1, 0, true) },
		func(x *Tlb) { x.Drop(2, 1); x.Insert(api.Mapping{Asid: 78, Page: 7, Frame: 7}) },
	}
	for many := range 9 {
		for k, change := range changes {
			x, want := New(), full()[:many]
			put(t, x, want...)
			f := x.Fork()
			if f == nil || f == x {
				t.Fatal(many)
			}
			same(t, "the fork", f, want)
			change(f)
			same(t, "behind the fork's change", x, want)
			f = x.Fork()
			change(x)
			same(t, "the fork behind a change", f, want)
			if many == 8 && slices.Equal(x.List(), want) {
				t.Error(k, "did not change")
			}
			g := f.Fork()
			change(g)
			same(t, "behind a fork's fork", f, want)
		}
	}
}

// TestP4BothGrow: what is taken in by both, behind a Fork, is not taken in over one another.
func TestP4BothGrow(t *testing.T) {
	for many := range 8 {
		x, first := New(), full()[:many]
		put(t, x, first...)
		f := x.Fork()
		a, b := api.Mapping{Asid: 50, Page: 1, Frame: 1}, api.Mapping{Asid: 60, Page: 2, Frame: 2}
		put(t, x, a)
		put(t, f, b)
		same(t, "the first one", x, append(slices.Clone(first), a))
		same(t, "the fork", f, append(slices.Clone(first), b))
	}
}

func TestP3ListIsTheCallers(t *testing.T) {
	for many := 1; many <= 8; many++ {
		x, want := New(), full()[:many]
		put(t, x, want...)
		a, b := x.List(), x.List()
		clear(a)
		if !slices.Equal(b, want) {
			t.Error(many, "two answers share room")
		}
		for k := range b[:cap(b)] {
			b[:cap(b)][k] = api.Mapping{Asid: 99}
		}
		same(t, "what was handed out", x, want)
		c, d := x.List(), x.List()
		c, d = append(c, api.Mapping{Asid: 98}), append(d, api.Mapping{Asid: 97})
		put(t, x, api.Mapping{Asid: 96})
		x.Protect(96, 0, true)
		x.Asid(1)
		if !slices.Equal(c, append(slices.Clone(want), api.Mapping{Asid: 98})) || !slices.Equal(d, append(slices.Clone(want), api.Mapping{Asid: 97})) {
			t.Error(many, c, d)
		}
	}
}

// model is what is asked for, as plainly as it is said.
type model []api.Mapping

func (l model) find(asid, page uint8) int {
	for k, m := range l {
		if m.Asid == asid && m.Page == page {
			return k
		}
	}
	return -1
}

func (l model) insert(m api.Mapping) (model, api.Mapping, bool, api.Errno) {
	if m.Page > 15 || m.Frame > 63 {
		return l, api.Mapping{}, false, api.ErrRange
	}
	k := l.find(m.Asid, m.Page)
	if k < 0 && len(l) == 8 {
		k = 0
	}
	if k < 0 {
		return append(slices.Clone(l), m), api.Mapping{}, false, api.OK
	}
	return without(l, k, m), l[k], true, api.OK
}

func (l model) except(keep func(api.Mapping) bool) (model, int) {
	var stay model
	for _, m := range l {
		if keep(m) {
			stay = append(stay, m)
		}
	}
	return stay, len(l) - len(stay)
}

// TestP7_3AnyOrder holds a Tlb against the model through calls made by a rule, wrong ones among them: never more than TlbSize, none twice.
func TestP7_3AnyOrder(t *testing.T) {
	seed := uint32(3)
	chance := func(n int) int {
		seed = seed*1664525 + 1013904223
		return int(seed>>8) % n
	}
	x, l := New(), model(nil)
	for range 60000 {
		asid, page, frame, write := uint8(chance(3)), uint8(chance(6)+12), uint8(chance(7)+59), chance(2) == 0
		switch chance(12) {
		case 0:
			at := l.find(asid, page)
			if at >= 0 {
				l = without(l, at)
			}
			if x.Drop(asid, page) != (at >= 0) {
				t.Fatal("Drop", asid, page)
			}
		case 1:
			at := l.find(asid, page)
			if at >= 0 {
				l[at].Write = write
			}
			if x.Protect(asid, page, write) != (at >= 0) {
				t.Fatal("Protect", asid, page)
			}
		case 2:
			var many int
			if chance(8) > 0 {
				continue
			}
			l, many = l.except(func(m api.Mapping) bool { return m.Asid != asid })
			if n := x.Asid(asid); n != many {
				t.Fatal("Asid", asid, n)
			}
		case 3:
			var many int
			l, many = l.except(func(m api.Mapping) bool { return m.Frame != frame })
			if n := x.Frame(frame); n != many {
				t.Fatal("Frame", frame, n)
			}
		default:
			var want api.Mapping
			var did bool
			var e api.Errno
			m := api.Mapping{Asid: asid, Page: page, Frame: frame, Write: write}
			l, want, did, e = l.insert(m)
			if gone, d, f := x.Insert(m); gone != want || d != did || f != e {
				t.Fatal("Insert", m, gone, d, f)
			}
		}
		same(t, "any order", x, l)
		if len(l) > api.TlbSize {
			t.Fatal(l)
		}
		for k, m := range l {
			if l.find(m.Asid, m.Page) != k {
				t.Fatal("twice", l)
			}
		}
	}
}
