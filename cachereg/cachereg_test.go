package cachereg

import (
	"math"
	"slices"
	"testing"

	"embrasure/api"
)

// model is which frames hold which sectors, as plainly as it is said: of each frame what it holds.
type model map[int]content

// bound is a registry with what is told, and what is written there noted.
func bound(t *testing.T, has model) *Registry {
	t.Helper()
	r := New()
	for frame, c := range has {
		if e := r.Bind(uint8(frame), c.sector); e != api.OK {
			t.Fatal(frame, c, e)
		}
		if e := r.Dirty(uint8(frame), c.written); e != api.OK {
			t.Fatal(frame, c, e)
		}
	}
	return r
}

// outside are sectors that there are not.
func outside() []int {
	return []int{-1, 64, 65, -2, -64, 127, 128, 255, 256, 1 << 16, 1 << 32, 1<<32 + 7, -1 << 32, math.MinInt, math.MaxInt}
}

// told holds all that a registry tells, also of what is not there, against what is asked for.
func told(t *testing.T, what string, r *Registry, want model) {
	t.Helper()
	var frames []uint8
	holders := [64]int{}
	for frame := range 256 {
		c, holds := want[frame]
		if holds {
			frames = append(frames, uint8(frame))
			holders[c.sector] = frame + 1
		}
		if sector, ok := r.Sector(uint8(frame)); sector != c.sector || ok != holds {
			t.Fatal(what, "Sector", frame, sector, ok, "not", c, holds)
		}
		if written := r.Written(uint8(frame)); written != c.written {
			t.Fatal(what, "Written", frame, written)
		}
	}
	for sector, by := range holders {
		if frame, ok := r.Frame(sector); int(frame) != max(by-1, 0) || ok != (by > 0) {
			t.Fatal(what, "Frame", sector, frame, ok, "not", by-1)
		}
	}
	for _, sector := range outside() {
		if frame, ok := r.Frame(sector); frame != 0 || ok {
			t.Fatal(what, "Frame", sector, frame, ok)
		}
	}
	if got := r.Frames(); !slices.Equal(got, frames) {
		t.Fatal(what, "Frames", got, "not", frames)
	}
}

// some is a registry's content in which there are the first and the last frame and sector, written and not.
func some() model {
	return model{0: {63, false}, 3: {7, true}, 9: {0, true}, 40: {8, false}, 63: {1, false}}
}

func TestP13_2New(t *testing.T) {
	r := New()
	if r == nil {
		t.Fatal("none")
	}
	told(t, "a new one", r, nil)
	r.Bind(3, 7)
	told(t, "the next one", New(), nil)
}

func TestP13_1Example(t *testing.T) {
	r := New()
	if r.Bind(3, 7) != api.OK || r.Dirty(3, true) != api.OK {
		t.Error("Bind, Dirty")
	}
	if sector, e := r.Unbind(3); sector != 0 || e != api.ErrBusy {
		t.Error(sector, e)
	}
	told(t, "the example", r, model{3: {7, true}})
}

// TestP13_1Bind: each frame may hold each sector, and is not written; Unbind answers it, and both are free then.
func TestP13_1Bind(t *testing.T) {
	r := New()
	for frame := range 64 {
		for sector := range 64 {
			if e := r.Bind(uint8(frame), sector); e != api.OK {
				t.Fatal(frame, sector, e)
			}
			told(t, "bound", r, model{frame: {sector, false}})
			if got, e := r.Unbind(uint8(frame)); got != sector || e != api.OK {
				t.Fatal(frame, sector, got, e)
			}
			told(t, "unbound", r, nil)
		}
	}
}

// TestP13_1BindExist: of a frame that holds one, and of a sector that another frame holds; of the same twice; what is written stays so.
func TestP13_1BindExist(t *testing.T) {
	r := bound(t, some())
	for frame := range 64 {
		for sector := range 64 {
			_, full := some()[frame]
			_, held := r.Frame(sector)
			if !full && !held {
				continue
			}
			if e := r.Bind(uint8(frame), sector); e != api.ErrExist {
				t.Fatal(frame, sector, e)
			}
		}
	}
	told(t, "refused", r, some())
}

// TestE7BindAll: all frames hold all sectors, one by one; there is no room for more.
func TestE7BindAll(t *testing.T) {
	r, want := New(), model{}
	for k := range 64 {
		frame, sector := k*5%64, k*11%64
		if e := r.Bind(uint8(frame), sector); e != api.OK {
			t.Fatal(frame, sector, e)
		}
		want[frame] = content{sector, false}
		told(t, "one more", r, want)
	}
	for frame := range 64 {
		for sector := range 64 {
			if e := r.Bind(uint8(frame), sector); e != api.ErrExist {
				t.Fatal(frame, sector, e)
			}
		}
		if e := r.Move(uint8(frame), uint8(63-frame)); e != api.ErrExist {
			t.Fatal(frame, e)
		}
	}
	told(t, "all", r, want)
}

// TestP13_1FrameRange: frames that are none, in each call that has an error, ahead of all others.
func TestP13_1FrameRange(t *testing.T) {
	r := bound(t, some())
	for n := 64; n < 256; n++ {
		frame := uint8(n)
		for _, sector := range append(outside(), 0, 5, 7, 63) {
			if e := r.Bind(frame, sector); e != api.ErrRange {
				t.Fatal("Bind", frame, sector, e)
			}
		}
		if sector, e := r.Unbind(frame); sector != 0 || e != api.ErrRange {
			t.Fatal("Unbind", frame, sector, e)
		}
		if r.Dirty(frame, true) != api.ErrRange || r.Dirty(frame, false) != api.ErrRange {
			t.Fatal("Dirty", frame)
		}
		for other := range 256 {
			if r.Move(frame, uint8(other)) != api.ErrRange || r.Move(uint8(other), frame) != api.ErrRange {
				t.Fatal("Move", frame, other)
			}
		}
	}
	told(t, "refused", r, some())
}

// TestP13_1SectorRange: sectors that are none, ahead of what the frame holds.
func TestP13_1SectorRange(t *testing.T) {
	r := bound(t, some())
	for _, sector := range outside() {
		for frame := range 256 {
			if e := r.Bind(uint8(frame), sector); e != api.ErrRange {
				t.Fatal(frame, sector, e)
			}
		}
	}
	told(t, "refused", r, some())
}

// TestP13_1Unbind: of what holds none; once of what holds one; the others stay. Another frame may hold the sector then, and the frame another one.
func TestP13_1Unbind(t *testing.T) {
	r := bound(t, some())
	for frame := range 64 {
		if _, holds := some()[frame]; holds {
			continue
		}
		if sector, e := r.Unbind(uint8(frame)); sector != 0 || e != api.ErrNoent {
			t.Fatal(frame, sector, e)
		}
	}
	told(t, "of what holds none", r, some())
	want := some()
	for frame, c := range some() {
		if c.written {
			continue
		}
		if sector, e := r.Unbind(uint8(frame)); sector != c.sector || e != api.OK {
			t.Fatal(frame, sector, e)
		}
		delete(want, frame)
		told(t, "unbound", r, want)
		if sector, e := r.Unbind(uint8(frame)); sector != 0 || e != api.ErrNoent {
			t.Fatal(frame, sector, e)
		}
	}
	if r.Bind(0, 20) != api.OK || r.Bind(20, 63) != api.OK || r.Bind(63, 8) != api.OK {
		t.Error("behind Unbind")
	}
	want[0], want[20], want[63] = content{20, false}, content{63, false}, content{8, false}
	told(t, "bound anew", r, want)
}

// TestP13_4Written: what is written is not unbound, until it is not written any more.
func TestP13_4Written(t *testing.T) {
	for frame := range 64 {
		r := bound(t, model{frame: {63 - frame, true}})
		for range 2 {
			if sector, e := r.Unbind(uint8(frame)); sector != 0 || e != api.ErrBusy {
				t.Fatal(frame, sector, e)
			}
			told(t, "written", r, model{frame: {63 - frame, true}})
		}
		if e := r.Dirty(uint8(frame), false); e != api.OK {
			t.Fatal(frame, e)
		}
		told(t, "not any more", r, model{frame: {63 - frame, false}})
		if sector, e := r.Unbind(uint8(frame)); sector != 63-frame || e != api.OK {
			t.Fatal(frame, sector, e)
		}
		told(t, "unbound", r, nil)
	}
}

// TestP13_1Dirty: on and off, twice each, of each frame alone; of what holds none.
func TestP13_1Dirty(t *testing.T) {
	for frame := range 64 {
		has := some()
		r := bound(t, has)
		c, holds := has[frame]
		for _, on := range []bool{true, true, false, false, true} {
			e := r.Dirty(uint8(frame), on)
			if holds {
				has[frame] = content{c.sector, on}
			}
			if holds != (e == api.OK) || !holds != (e == api.ErrNoent) {
				t.Fatal(frame, on, e)
			}
			told(t, "Dirty", r, has)
		}
	}
}

// TestP13_1BindAnew: what is bound is not written, though the frame, or the sector, was.
func TestP13_1BindAnew(t *testing.T) {
	for k, gone := range []func(*Registry) bool{
		func(r *Registry) bool { return r.Clear(3) == 1 },
		func(r *Registry) bool { return r.Move(3, 4) == api.OK && r.Clear(4) == 1 },
		func(r *Registry) bool {
			off := r.Dirty(3, false)
			sector, e := r.Unbind(3)
			return off == api.OK && sector == 7 && e == api.OK
		},
	} {
		for _, again := range []struct{ frame, sector int }{{3, 7}, {3, 5}, {5, 7}, {4, 7}, {4, 5}} {
			r := bound(t, model{3: {7, true}})
			if !gone(r) {
				t.Fatal(k, "was refused")
			}
			told(t, "gone", r, nil)
			if r.Dirty(3, true) != api.ErrNoent || r.Dirty(4, true) != api.ErrNoent {
				t.Fatal(k, "what holds none is not written")
			}
			if e := r.Bind(uint8(again.frame), again.sector); e != api.OK {
				t.Fatal(k, again, e)
			}
			told(t, "bound anew", r, model{again.frame: {again.sector, false}})
		}
	}
	r := bound(t, model{3: {7, true}})
	if r.Move(3, 4) != api.OK || r.Bind(3, 8) != api.OK {
		t.Error("where one was moved from")
	}
	told(t, "where one was moved from", r, model{3: {8, false}, 4: {7, true}})
}

// TestP13_1Move: from each frame to each other one, written as it was.
func TestP13_1Move(t *testing.T) {
	for from := range 64 {
		for to := range 64 {
			if from == to {
				continue
			}
			c := content{(from + to) % 64, to%2 == 0}
			r := bound(t, model{from: c})
			if e := r.Move(uint8(from), uint8(to)); e != api.OK {
				t.Fatal(from, to, e)
			}
			told(t, "moved", r, model{to: c})
		}
	}
}

// TestP13_1MoveRefused: from one that holds none, which comes first; to one that holds one, itself among them.
func TestP13_1MoveRefused(t *testing.T) {
	r := bound(t, some())
	for from := range 64 {
		for to := range 64 {
			_, holds := some()[from]
			_, full := some()[to]
			want := api.ErrNoent
			if holds {
				want = api.ErrExist
			}
			if holds && !full {
				continue
			}
			if e := r.Move(uint8(from), uint8(to)); e != want {
				t.Fatal(from, to, e, want)
			}
		}
	}
	told(t, "refused", r, some())
}

// TestP13_1MoveOn: back and forth, and others round it.
func TestP13_1MoveOn(t *testing.T) {
	r := bound(t, some())
	for _, step := range []struct {
		from, to uint8
		want     api.Errno
	}{{3, 4, api.OK}, {3, 4, api.ErrNoent}, {4, 3, api.OK}, {0, 4, api.OK}, {3, 0, api.OK}, {4, 3, api.OK}, {9, 0, api.ErrExist}} {
		if e := r.Move(step.from, step.to); e != step.want {
			t.Fatal(step, e)
		}
	}
	want := some()
	want[0], want[3] = want[3], want[0]
	told(t, "two have changed places", r, want)
}

// TestP13_1Clear: of none, of those that hold none, of one that is named twice, of what is written, of frames that are none.
func TestP13_1Clear(t *testing.T) {
	for _, row := range []struct {
		frames []uint8
		many   int
		left   []int
	}{
		{nil, 0, []int{0, 3, 9, 40, 63}},
		{[]uint8{}, 0, []int{0, 3, 9, 40, 63}},
		{[]uint8{1, 2, 62, 1}, 0, []int{0, 3, 9, 40, 63}},
		{[]uint8{64, 65, 128, 255, 67}, 0, []int{0, 3, 9, 40, 63}},
		{[]uint8{0}, 1, []int{3, 9, 40, 63}},
		{[]uint8{63, 64}, 1, []int{0, 3, 9, 40}},
		{[]uint8{3}, 1, []int{0, 9, 40, 63}},
		{[]uint8{3, 3}, 1, []int{0, 9, 40, 63}},
		{[]uint8{40, 3, 1, 3, 40, 255}, 2, []int{0, 9, 63}},
		{[]uint8{255, 9, 3, 2}, 2, []int{0, 40, 63}},
		{[]uint8{63, 40, 9, 3, 0}, 5, nil},
	} {
		r, want := bound(t, some()), model{}
		for _, frame := range row.left {
			want[frame] = some()[frame]
		}
		if many := r.Clear(row.frames...); many != row.many {
			t.Error(row, many)
		}
		told(t, "cleared", r, want)
		if many := r.Clear(row.frames...); many != 0 {
			t.Error(row, many)
		}
		told(t, "cleared twice", r, want)
	}
	r := bound(t, some())
	if many := r.Clear(); many != 0 {
		t.Error(many)
	}
	told(t, "none is named", r, some())
}

// TestP13_1ClearAll: of all numbers, backwards; what was held may be held again.
func TestP13_1ClearAll(t *testing.T) {
	r, all, want := New(), []uint8{}, model{}
	for frame := range 256 {
		all = append(all, uint8(255-frame))
	}
	for range 2 {
		for frame := range 64 {
			if r.Bind(uint8(frame), 63-frame) != api.OK || r.Dirty(uint8(frame), frame%3 == 0) != api.OK {
				t.Fatal(frame)
			}
			want[frame] = content{63 - frame, frame%3 == 0}
		}
		told(t, "all are bound", r, want)
		if many := r.Clear(all...); many != 64 {
			t.Error(many)
		}
		told(t, "all are cleared", r, nil)
	}
}

// TestP13_2Frames: rising, however they came to hold one.
func TestP13_2Frames(t *testing.T) {
	r, want := New(), model{}
	for k, frame := range []uint8{63, 0, 31, 32, 1, 62, 30, 17} {
		if e := r.Bind(frame, k); e != api.OK {
			t.Fatal(frame, e)
		}
		want[int(frame)] = content{k, false}
		for range 10 {
			told(t, "rising", r, want)
		}
	}
}

func TestP1NilRegistry(t *testing.T) {
	var r *Registry
	for n := range 256 {
		frame := uint8(n)
		for _, sector := range append(outside(), 0, 63) {
			if e := r.Bind(frame, sector); e != api.ErrNil {
				t.Fatal(frame, sector, e)
			}
		}
		if sector, e := r.Unbind(frame); sector != 0 || e != api.ErrNil {
			t.Fatal(frame, sector, e)
		}
		if r.Dirty(frame, true) != api.ErrNil || r.Dirty(frame, false) != api.ErrNil || r.Move(frame, 0) != api.ErrNil || r.Move(0, frame) != api.ErrNil {
			t.Fatal(frame)
		}
		if many := r.Clear(frame, 0, 63); many != 0 {
			t.Fatal(frame, many)
		}
	}
	if r.Clear() != 0 || r.Fork() != nil {
		t.Error(r.Clear(), r.Fork())
	}
	told(t, "nil", r, nil)
}

// changes are all calls that change a registry with some; each tells whether it did.
func changes() []func(*Registry) bool {
	return []func(*Registry) bool{
		func(r *Registry) bool { return r.Bind(5, 5) == api.OK },
		func(r *Registry) bool { sector, e := r.Unbind(40); return sector == 8 && e == api.OK },
		func(r *Registry) bool { return r.Dirty(0, true) == api.OK },
		func(r *Registry) bool { return r.Dirty(3, false) == api.OK },
		func(r *Registry) bool { return r.Move(3, 4) == api.OK },
		func(r *Registry) bool { return r.Clear(0, 3, 9, 40, 63) == 5 },
	}
}

func TestP4Fork(t *testing.T) {
	for k, change := range changes() {
		r := bound(t, some())
		f := r.Fork()
		if f == nil || f == r {
			t.Fatal(k)
		}
		told(t, "the fork", f, some())
		if !change(f) {
			t.Error(k, "was refused")
		}
		told(t, "behind the fork's change", r, some())
		f = r.Fork()
		if !change(r) {
			t.Error(k, "was refused")
		}
		told(t, "the fork behind a change", f, some())
		g := f.Fork()
		change(g)
		told(t, "behind a fork's fork", f, some())
	}
	f := New().Fork()
	if f == nil || f.Bind(0, 0) != api.OK {
		t.Fatal("a fork of one without any")
	}
	told(t, "a fork of one without any", f, model{0: {0, false}})
}

// TestP3Lists: what is handed in stays, its spare room too; what is answered is the caller's.
func TestP3Lists(t *testing.T) {
	room := []uint8{63, 3, 3, 200, 0, 11, 12, 13}
	r := bound(t, some())
	before := r.Frames()
	if many := r.Clear(room[:5]...); many != 3 {
		t.Error(many)
	}
	if !slices.Equal(room, []uint8{63, 3, 3, 200, 0, 11, 12, 13}) {
		t.Error("what was handed in has changed", room)
	}
	if !slices.Equal(before, []uint8{0, 3, 9, 40, 63}) {
		t.Error("what was handed out has changed", before)
	}
	r = bound(t, some())
	a, b, c := r.Frames(), r.Frames(), r.Fork().Frames()
	clear(a[:cap(a)])
	if !slices.Equal(b, before) || !slices.Equal(c, before) {
		t.Error("answers share room", b, c)
	}
	told(t, "what was handed out", r, some())
}

func (m model) holder(sector int) (int, bool) {
	for frame, c := range m {
		if c.sector == sector {
			return frame, true
		}
	}
	return 0, false
}

func (m model) bind(frame, sector int) api.Errno {
	if frame >= 64 || sector < 0 || sector >= 64 {
		return api.ErrRange
	}
	_, full := m[frame]
	if _, held := m.holder(sector); full || held {
		return api.ErrExist
	}
	m[frame] = content{sector, false}
	return api.OK
}

func (m model) unbind(frame int) (int, api.Errno) {
	c, ok := m[frame]
	switch {
	case frame >= 64:
		return 0, api.ErrRange
	case !ok:
		return 0, api.ErrNoent
	case c.written:
		return 0, api.ErrBusy
	}
	delete(m, frame)
	return c.sector, api.OK
}

func (m model) dirty(frame int, on bool) api.Errno {
	c, ok := m[frame]
	switch {
	case frame >= 64:
		return api.ErrRange
	case !ok:
		return api.ErrNoent
	}
	m[frame] = content{c.sector, on}
	return api.OK
}

func (m model) move(from, to int) api.Errno {
	c, ok := m[from]
	_, full := m[to]
	switch {
	case from >= 64 || to >= 64:
		return api.ErrRange
	case !ok:
		return api.ErrNoent
	case full:
		return api.ErrExist
	}
	delete(m, from)
	m[to] = c
	return api.OK
}

func (m model) clear(frames []uint8) int {
	before := len(m)
	for _, frame := range frames {
		delete(m, int(frame))
	}
	return before - len(m)
}

// once tells whether no sector is held twice, in what a registry tells.
func once(r *Registry) bool {
	seen := map[int]int{}
	for _, frame := range r.Frames() {
		sector, ok := r.Sector(frame)
		if seen[sector]++; !ok || seen[sector] > 1 {
			return false
		}
	}
	return true
}

// TestP13_3AnyOrder holds a registry against the model through calls made by a rule, wrong ones among them.
func TestP13_3AnyOrder(t *testing.T) {
	seed := uint32(1313)
	chance := func(n int) int {
		seed = seed*1664525 + 1013904223
		return int(seed>>8) % n
	}
	some := func() int { return []int{0, 1, 2, 3, 30, 31, 62, 63, 64, 255}[chance(10)] }
	r, m := New(), model{}
	done := [5]int{}
	for range 20000 {
		frame, to, sector, on, kind := some(), some(), []int{-1, 0, 1, 2, 3, 4, 63, 64}[chance(8)], chance(2) == 0, chance(5)
		var e, want api.Errno
		switch kind {
		case 0:
			e, want = r.Bind(uint8(frame), sector), m.bind(frame, sector)
		case 1:
			var got, asked int
			written := r.Written(uint8(frame))
			got, e = r.Unbind(uint8(frame))
			asked, want = m.unbind(frame)
			if got != asked || written && e != api.ErrBusy {
				t.Fatal("Unbind", frame, got, asked, written, e)
			}
		case 2:
			e, want = r.Dirty(uint8(frame), on), m.dirty(frame, on)
		case 3:
			e, want = r.Move(uint8(frame), uint8(to)), m.move(frame, to)
		case 4:
			if l := []uint8{uint8(frame), uint8(to), uint8(frame)}[:chance(4)]; chance(2) == 0 {
				e, want = api.Errno(r.Clear(l...)), api.Errno(m.clear(l))
			}
		}
		if e != want {
			t.Fatal(kind, frame, to, sector, on, e, want)
		}
		if e == api.OK {
			done[kind]++
		}
		told(t, "any order", r, m)
		if !once(r) {
			t.Fatal("a sector is held twice")
		}
		if chance(100) == 0 {
			r = r.Fork()
		}
	}
	for kind, many := range done {
		if many < 200 {
			t.Error(kind, many, "is little")
		}
	}
}
