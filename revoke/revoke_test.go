package revoke

import (
	"math"
	"slices"
	"testing"

	"embrasure/api"
)

// state is all that a book tells: what is asked back, as it was asked, and the vectors.
type state struct {
	open []api.Asked
	lost [6][]uint8
}

// another is a state with the same, in lists of its own.
func (s state) another() state {
	n := state{open: slices.Clone(s.open)}
	for env := range s.lost {
		n.lost[env] = slices.Clone(s.lost[env])
	}
	return n
}

// until is until when a frame is asked back of an environment.
func (s state) until(env, frame uint8) (int, bool) {
	for _, a := range s.open {
		if a.Env == env && a.Frame == frame {
			return a.Until, true
		}
	}
	return 0, false
}

// told holds all that a book tells, also of what is not there, against what is asked for.
func told(t *testing.T, what string, b *Book, want state) {
	t.Helper()
	if got := b.Open(); !slices.Equal(got, want.open) {
		t.Fatal(what, "Open", got, "not", want.open)
	}
	for env := range 256 {
		var lost []uint8
		if env < 6 {
			lost = want.lost[env]
		}
		if got := b.Lost(uint8(env)); !slices.Equal(got, lost) {
			t.Fatal(what, "Lost", env, got, "not", lost)
		}
	}
	for _, env := range []uint8{0, 1, 2, 3, 4, 5, 6, 7, 255} {
		for frame := range 256 {
			until, asked := want.until(env, uint8(frame))
			if got, ok := b.Asked(env, uint8(frame)); got != until || ok != asked {
				t.Fatal(what, "Asked", env, frame, got, ok, "not", until, asked)
			}
		}
	}
}

// asked is what is asked back of an environment until a tick.
func asked(env, frame uint8, until int) api.Asked {
	return api.Asked{Env: env, Frame: frame, Until: until}
}

// book has all that is given asked back, from tick 0 on.
func book(t *testing.T, l ...api.Asked) (*Book, state) {
	t.Helper()
	b := New()
	for _, a := range l {
		if e := b.Ask(a.Env, a.Frame, 0, a.Until); e != api.OK {
			t.Fatal(a, e)
		}
	}
	return b, state{open: l}
}

// eight are as many as can be asked back, of several environments, out of order.
func eight() []api.Asked {
	return []api.Asked{asked(3, 9, 7), asked(0, 63, 2), asked(3, 0, 7), asked(5, 9, 0), asked(0, 9, 1000), asked(1, 1, 3), asked(3, 8, 2), asked(2, 2, 7)}
}

// full is a book with eight, of which some are in vectors already, and eight again.
func full(t *testing.T) (*Book, state) {
	t.Helper()
	b, want := book(t, eight()...)
	b.Due(2)
	want.open = []api.Asked{asked(3, 9, 7), asked(3, 0, 7), asked(0, 9, 1000), asked(1, 1, 3), asked(2, 2, 7)}
	want.lost = [6][]uint8{0: {63}, 3: {8}, 5: {9}}
	for _, a := range []api.Asked{asked(0, 63, 12), asked(3, 20, 8), asked(5, 40, 9)} {
		if e := b.Ask(a.Env, a.Frame, 2, a.Until-2); e != api.OK {
			t.Fatal(a, e)
		}
		want.open = append(want.open, a)
	}
	told(t, "full", b, want)
	return b, want
}

func TestP15_1New(t *testing.T) {
	b := New()
	if b == nil {
		t.Fatal("none")
	}
	told(t, "a new one", b, state{})
	b.Ask(0, 0, 0, 0)
	b.Due(0)
	told(t, "the next one", New(), state{})
}

func TestP15_1Example(t *testing.T) {
	b := New()
	if e := b.Ask(0, 5, 10, 3); e != api.OK {
		t.Error(e)
	}
	if l := b.Due(12); len(l) != 0 {
		t.Error(l)
	}
	told(t, "ahead of its time", b, state{open: []api.Asked{asked(0, 5, 13)}})
	if l := b.Due(13); !slices.Equal(l, []api.Asked{asked(0, 5, 13)}) {
		t.Error(l)
	}
	told(t, "due", b, state{lost: [6][]uint8{0: {5}}})
	if frame, ok := b.Next(0); frame != 5 || !ok {
		t.Error(frame, ok)
	}
	told(t, "at last", b, state{})
}

// TestP15_1Ask: each number at its edges.
func TestP15_1Ask(t *testing.T) {
	for _, env := range []uint8{0, 1, 4, 5} {
		for _, frame := range []uint8{0, 1, 62, 63} {
			for _, now := range []int{0, 1, 1<<30 - 1, 1 << 30} {
				for _, within := range []int{0, 1, 999, 1000} {
					b := New()
					if e := b.Ask(env, frame, now, within); e != api.OK {
						t.Fatal(env, frame, now, within, e)
					}
					told(t, "asked", b, state{open: []api.Asked{asked(env, frame, now+within)}})
				}
			}
		}
	}
}

// TestP15_1AskRange: ahead of all else that stands against it, of an empty book and of a full one.
func TestP15_1AskRange(t *testing.T) {
	empty := New()
	b, want := full(t)
	refuse := func(env, frame uint8, now, within int) {
		t.Helper()
		if e, f := b.Ask(env, frame, now, within), empty.Ask(env, frame, now, within); e != api.ErrRange || f != api.ErrRange {
			t.Fatal(env, frame, now, within, e, f)
		}
	}
	for env := 6; env < 256; env++ {
		refuse(uint8(env), 5, 1, 1)
	}
	for frame := 64; frame < 256; frame++ {
		refuse(1, uint8(frame), 1, 1)
	}
	for _, now := range []int{-1, -2, math.MinInt, 1<<30 + 1, 1 << 31, 1<<32 + 5, math.MaxInt} {
		refuse(3, 9, now, 1)
		refuse(4, 4, now, 0)
	}
	for _, within := range []int{-1, -2, math.MinInt, 1001, 1 << 16, 1<<32 + 5, math.MaxInt} {
		refuse(3, 9, 1, within)
		refuse(4, 4, 1<<30, within)
	}
	refuse(255, 255, math.MinInt, math.MaxInt)
	told(t, "refused", b, want)
	told(t, "refused", empty, state{})
}

// TestP15_1AskExist: the same of the same environment, whatever the times are, also of a full book; of another one it is another one.
func TestP15_1AskExist(t *testing.T) {
	b, want := book(t, asked(2, 7, 4))
	for range 2 {
		for _, times := range [][2]int{{0, 4}, {0, 0}, {9, 9}, {1 << 30, 1000}} {
			if e := b.Ask(2, 7, times[0], times[1]); e != api.ErrExist {
				t.Fatal(times, e)
			}
		}
		told(t, "refused", b, want)
	}
	for _, a := range []api.Asked{asked(1, 7, 1), asked(2, 6, 1), asked(1, 2, 1)} {
		if e := b.Ask(a.Env, a.Frame, 0, 1); e != api.OK {
			t.Fatal(a, e)
		}
		want.open = append(want.open, a)
	}
	told(t, "others", b, want)
	f, whole := full(t)
	for _, a := range whole.open {
		if e := f.Ask(a.Env, a.Frame, 0, 0); e != api.ErrExist {
			t.Fatal(a, e)
		}
	}
	told(t, "refused by a full one", f, whole)
}

// TestP15_1AskSpace: the MaxRevokes-th is taken in, no other one, until one is out: all environments share the room.
func TestP15_1AskSpace(t *testing.T) {
	for _, spread := range []bool{true, false} {
		b, want := New(), state{}
		for k := range 8 {
			a := asked(2, uint8(k), 5)
			if spread {
				a.Env = uint8(k % 6)
			}
			if e := b.Ask(a.Env, a.Frame, 3, 2); e != api.OK {
				t.Fatal(k, e)
			}
			want.open = append(want.open, a)
			told(t, "asked", b, want)
		}
		for env := range uint8(6) {
			if e := b.Ask(env, 30, 0, 0); e != api.ErrSpace {
				t.Fatal(env, e)
			}
		}
		told(t, "refused", b, want)
		if e := b.Done(want.open[4].Env, want.open[4].Frame); e != api.OK {
			t.Fatal(e)
		}
		want.open = slices.Delete(want.open, 4, 5)
		if e := b.Ask(5, 30, 0, 9); e != api.OK {
			t.Fatal(e)
		}
		want.open = append(want.open, asked(5, 30, 9))
		if e := b.Ask(5, 31, 0, 9); e != api.ErrSpace {
			t.Fatal(e)
		}
		told(t, "one for one", b, want)
	}
}

// TestP15_1AskBehindDue: vectors take no room of what can be asked back, and what lies in one can be asked back again.
func TestP15_1AskBehindDue(t *testing.T) {
	b, want := New(), state{}
	for range 5 {
		for k := range 8 {
			if e := b.Ask(1, uint8(k), 0, 0); e != api.OK {
				t.Fatal(k, e)
			}
			want.lost[1] = append(want.lost[1], uint8(k))
		}
		if l := b.Due(0); len(l) != 8 {
			t.Fatal(l)
		}
		told(t, "in the vector", b, want)
	}
}

func TestP15_1Done(t *testing.T) {
	for k, a := range eight() {
		b, want := book(t, eight()...)
		if e := b.Done(a.Env, a.Frame); e != api.OK {
			t.Fatal(a, e)
		}
		want.open = slices.Delete(eight(), k, k+1)
		told(t, "done", b, want)
		if e := b.Done(a.Env, a.Frame); e != api.ErrNoent {
			t.Fatal("twice", a, e)
		}
		told(t, "done twice", b, want)
		if e := b.Ask(a.Env, a.Frame, 20, 30); e != api.OK {
			t.Fatal("again", a, e)
		}
		want.open = append(want.open, asked(a.Env, a.Frame, 50))
		told(t, "asked again", b, want)
	}
}

// TestP15_1DoneNoent: of all that is not asked back, numbers that are none among them; what is in a vector is not asked back, and stays there.
func TestP15_1DoneNoent(t *testing.T) {
	b, want := full(t)
	for env := range 256 {
		for frame := range 256 {
			if _, there := want.until(uint8(env), uint8(frame)); there {
				continue
			}
			if e := b.Done(uint8(env), uint8(frame)); e != api.ErrNoent {
				t.Fatal(env, frame, e)
			}
		}
	}
	told(t, "refused", b, want)
	if e := New().Done(0, 0); e != api.ErrNoent {
		t.Error(e)
	}
}

// TestP15_1Due: just ahead of the tick, at it, behind it; in the order in which they were asked, whatever their ticks are; and again.
func TestP15_1Due(t *testing.T) {
	for _, now := range []int{math.MinInt, -1, 0, 1, 2, 3, 4, 6, 7, 8, 999, 1000, 1001, 1 << 31, math.MaxInt} {
		b, want := book(t, eight()...)
		var due, stay []api.Asked
		for _, a := range want.open {
			if a.Until <= now {
				due = append(due, a)
				want.lost[a.Env] = append(want.lost[a.Env], a.Frame)
			} else {
				stay = append(stay, a)
			}
		}
		want.open = stay
		if got := b.Due(now); !slices.Equal(got, due) {
			t.Fatal(now, got, "not", due)
		}
		told(t, "due", b, want)
		for range 2 {
			if got := b.Due(now); len(got) != 0 {
				t.Fatal("again", now, got)
			}
		}
		told(t, "due again", b, want)
	}
}

// TestP15_1DueWhen: the tick is that at which it was asked, and within.
func TestP15_1DueWhen(t *testing.T) {
	for _, now := range []int{0, 5, 1 << 30} {
		for _, within := range []int{0, 1, 1000} {
			b := New()
			b.Ask(4, 44, now, within)
			if l := b.Due(now + within - 1); len(l) != 0 {
				t.Fatal(now, within, l)
			}
			if l := b.Due(now + within); !slices.Equal(l, []api.Asked{asked(4, 44, now+within)}) {
				t.Fatal(now, within, l)
			}
			told(t, "due", b, state{lost: [6][]uint8{4: {44}}})
		}
	}
}

// TestP15_4Next: a vector's frames come out as they went in, of one Due and of many, with others between.
func TestP15_4Next(t *testing.T) {
	b := New()
	var want state
	for k, frame := range []uint8{9, 3, 63, 0, 9, 9, 1} {
		b.Ask(2, frame, k, 0)
		b.Ask(4, 60-frame%4, k, 0)
		b.Due(k)
		want.lost[2] = append(want.lost[2], frame)
		want.lost[4] = append(want.lost[4], 60-frame%4)
	}
	told(t, "many", b, want)
	for len(want.lost[2]) > 0 {
		if frame, ok := b.Next(2); frame != want.lost[2][0] || !ok {
			t.Fatal(frame, ok, "not", want.lost[2][0])
		}
		want.lost[2] = want.lost[2][1:]
		told(t, "one less", b, want)
	}
	b.Ask(2, 8, 0, 0)
	b.Due(0)
	want.lost[2] = []uint8{8}
	told(t, "behind an empty one", b, want)
	if frame, ok := b.Next(2); frame != 8 || !ok {
		t.Error(frame, ok)
	}
}

// TestP15_1NextEmpty: of a vector that is empty, though something is asked back, or other vectors are not, and of numbers that are no environments.
func TestP15_1NextEmpty(t *testing.T) {
	b, want := full(t)
	for env := range 256 {
		if env < 6 && len(want.lost[env]) > 0 {
			continue
		}
		if frame, ok := b.Next(uint8(env)); frame != 0 || ok {
			t.Fatal(env, frame, ok)
		}
	}
	told(t, "refused", b, want)
	if frame, ok := New().Next(0); frame != 0 || ok {
		t.Error(frame, ok)
	}
}

// TestP15_1Out: what is asked back, and the vector; it tells how many were asked back, without those of the vector.
func TestP15_1Out(t *testing.T) {
	for env := range 6 {
		b, want := full(t)
		var stay []api.Asked
		for _, a := range want.open {
			if int(a.Env) != env {
				stay = append(stay, a)
			}
		}
		many := len(want.open) - len(stay)
		want.open, want.lost[env] = stay, nil
		if n := b.Out(uint8(env)); n != many {
			t.Fatal(env, n, "not", many)
		}
		told(t, "out", b, want)
		if n := b.Out(uint8(env)); n != 0 {
			t.Fatal("twice", env, n)
		}
		told(t, "out twice", b, want)
	}
	b, want := full(t)
	for env := 6; env < 256; env++ {
		if n := b.Out(uint8(env)); n != 0 {
			t.Fatal(env, n)
		}
	}
	told(t, "of none", b, want)
}

// TestP15_1OutVectorAlone: of what has a vector, and nothing that is asked back.
func TestP15_1OutVectorAlone(t *testing.T) {
	b := New()
	b.Ask(3, 3, 0, 0)
	b.Due(0)
	if n := b.Out(3); n != 0 {
		t.Error(n)
	}
	told(t, "out", b, state{})
}

// TestP15_3OnceOnly: what is asked back until a tick is given up, or in the vector, once, however often Due is asked.
func TestP15_3OnceOnly(t *testing.T) {
	b, _ := book(t, eight()...)
	given := map[api.Asked]int{}
	for _, k := range []int{1, 3, 6} {
		a := eight()[k]
		if b.Done(a.Env, a.Frame) == api.OK {
			given[a]++
		}
	}
	for now := range 1003 {
		for range 2 {
			b.Due(now)
		}
		for _, a := range eight() {
			times := given[a]
			for _, frame := range b.Lost(a.Env) {
				if frame == a.Frame {
					times++
				}
			}
			want := 0
			if given[a] == 1 || a.Until <= now {
				want = 1
			}
			if _, open := b.Asked(a.Env, a.Frame); times != want || open != (want == 0) {
				t.Fatal(now, a, times, open)
			}
		}
	}
}

func TestP1NilBook(t *testing.T) {
	var b *Book
	for _, n := range []uint8{0, 5, 6, 63, 64, 255} {
		for _, now := range []int{math.MinInt, -1, 0, 1, math.MaxInt} {
			if b.Ask(n, n, now, now) != api.ErrNil || b.Done(n, n) != api.ErrNil || len(b.Due(now)) != 0 {
				t.Fatal(n, now)
			}
		}
		if frame, ok := b.Next(n); frame != 0 || ok || b.Out(n) != 0 {
			t.Fatal(n, frame, ok)
		}
	}
	if b.Fork() != nil {
		t.Error("Fork")
	}
	told(t, "nil", b, state{})
}

// changes are all calls that change the book full; each tells whether it did.
func changes() []func(*Book) bool {
	return []func(*Book) bool{
		func(b *Book) bool { return b.Done(3, 9) == api.OK },
		func(b *Book) bool { return b.Done(5, 40) == api.OK && b.Ask(5, 41, 1, 1) == api.OK },
		func(b *Book) bool { return b.Done(3, 9) == api.OK && b.Ask(3, 9, 1, 999) == api.OK },
		func(b *Book) bool { return len(b.Due(7)) == 4 },
		func(b *Book) bool { return len(b.Due(2000)) == 8 },
		func(b *Book) bool { _, ok := b.Next(3); return ok },
		func(b *Book) bool { _, ok := b.Next(3); return ok && len(b.Due(8)) > 0 },
		func(b *Book) bool { return b.Out(0) == 2 },
		func(b *Book) bool { return b.Out(3) == 3 },
	}
}

func TestP4Fork(t *testing.T) {
	for k, change := range changes() {
		b, want := full(t)
		f := b.Fork()
		if f == nil || f == b {
			t.Fatal(k)
		}
		told(t, "the fork", f, want)
		if !change(f) {
			t.Error(k, "was refused")
		}
		told(t, "behind the fork's change", b, want)
		f = b.Fork()
		if !change(b) {
			t.Error(k, "was refused")
		}
		told(t, "the fork behind a change", f, want)
		g := f.Fork()
		change(g)
		told(t, "behind a fork's fork", f, want)
	}
}

// TestP4BothGoOn: what each of the two is told to take in behind the fork lies in its own room, though there is some behind its lists.
func TestP4BothGoOn(t *testing.T) {
	b, want := book(t, asked(1, 1, 0), asked(1, 2, 0), asked(1, 3, 0), asked(2, 4, 50), asked(2, 5, 50), asked(2, 6, 50))
	b.Due(0)
	b.Next(1)
	want = state{open: want.open[3:], lost: [6][]uint8{1: {2, 3}}}
	f, other := b.Fork(), want.another()
	for k := range 4 {
		b.Ask(3, uint8(10+k), 0, 60)
		f.Ask(4, uint8(20+k), 0, 60)
		want.open = append(want.open, asked(3, uint8(10+k), 60))
		other.open = append(other.open, asked(4, uint8(20+k), 60))
		told(t, "the first", b, want)
		told(t, "the fork", f, other)
	}
	b.Due(50)
	f.Done(2, 5)
	f.Due(50)
	want.open, want.lost[2] = want.open[3:], []uint8{4, 5, 6}
	other.open, other.lost[2] = other.open[3:], []uint8{4, 6}
	told(t, "the first", b, want)
	told(t, "the fork", f, other)
	for k := range uint8(9) {
		b.Ask(1, 30+k, 0, 0)
		f.Ask(1, 40+k, 0, 0)
		b.Due(0)
		f.Due(0)
		want.lost[1] = append(want.lost[1], 30+k)
		other.lost[1] = append(other.lost[1], 40+k)
		told(t, "the first's vector", b, want)
		told(t, "the fork's vector", f, other)
	}
}

func TestP3ListsAreTheCallers(t *testing.T) {
	b, want := full(t)
	open, again, lost, more := b.Open(), b.Open(), b.Lost(3), b.Lost(3)
	for k := range open[:cap(open)] {
		open[:cap(open)][k] = asked(4, 4, 4)
	}
	for k := range lost[:cap(lost)] {
		lost[:cap(lost)][k] = 77
	}
	if !slices.Equal(again, want.open) || !slices.Equal(more, want.lost[3]) {
		t.Error("answers share room", again, more)
	}
	told(t, "what was handed out", b, want)
	held, kept := b.Open(), b.Lost(3)
	due := b.Due(8)
	same := slices.Clone(due)
	for k := range due[:cap(due)] {
		due[:cap(due)][k] = asked(4, 4, 4)
	}
	if !slices.Equal(held, want.open) || !slices.Equal(kept, []uint8{8}) || len(same) != 5 {
		t.Error("what was handed out changes", held, kept, same)
	}
	for _, a := range same {
		want.lost[a.Env] = append(want.lost[a.Env], a.Frame)
	}
	want.open = []api.Asked{asked(0, 9, 1000), asked(0, 63, 12), asked(5, 40, 9)}
	told(t, "Due", b, want)
}

func (s *state) ask(env, frame uint8, now, within int) api.Errno {
	_, there := s.until(env, frame)
	switch {
	case env >= 6 || frame >= 64 || now < 0 || now > 1<<30 || within < 0 || within > 1000:
		return api.ErrRange
	case there:
		return api.ErrExist
	case len(s.open) >= 8:
		return api.ErrSpace
	}
	s.open = append(s.open, asked(env, frame, now+within))
	return api.OK
}

// take is what is asked back, and told; it is not any more.
func (s *state) take(told func(api.Asked) bool) []api.Asked {
	var out, stay []api.Asked
	for _, a := range s.open {
		if told(a) {
			out = append(out, a)
		} else {
			stay = append(stay, a)
		}
	}
	s.open = stay
	return out
}

func (s *state) due(now int) []api.Asked {
	out := s.take(func(a api.Asked) bool { return a.Until <= now })
	for _, a := range out {
		s.lost[a.Env] = append(s.lost[a.Env], a.Frame)
	}
	return out
}

func (s *state) next(env uint8) (uint8, bool) {
	if env >= 6 || len(s.lost[env]) == 0 {
		return 0, false
	}
	first := s.lost[env][0]
	s.lost[env] = s.lost[env][1:]
	return first, true
}

func (s *state) out(env uint8) int {
	if env < 6 {
		s.lost[env] = nil
	}
	return len(s.take(func(a api.Asked) bool { return a.Env == env }))
}

// play makes one call of both, and tells whether they answer alike.
func play(b *Book, s *state, now int, chance func(int) int) (kind int, done, alike bool) {
	env, frame := uint8(chance(7)), uint8(chance(5)*16)
	switch kind = chance(9); kind {
	default:
		within := chance(30) - 1
		e, f := b.Ask(env, frame, now, within), s.ask(env, frame, now, within)
		return 0, e == api.OK, e == f
	case 5:
		e := b.Done(env, frame)
		had := s.take(func(a api.Asked) bool { return a.Env == env && a.Frame == frame })
		return kind, e == api.OK, (e == api.OK) == (len(had) == 1) && (e == api.OK || e == api.ErrNoent)
	case 6:
		l, m := b.Due(now), s.due(now)
		return kind, len(l) > 0, slices.Equal(l, m)
	case 7:
		frame, ok := b.Next(env)
		want, there := s.next(env)
		return kind, ok, frame == want && ok == there
	case 8:
		if chance(4) > 0 {
			return kind, false, true
		}
		n := b.Out(env)
		return kind, n > 0, n == s.out(env)
	}
}

// TestP15_2AnyOrder: what is told is what the calls came to, in any order of these.
func TestP15_2AnyOrder(t *testing.T) {
	seed := uint32(15)
	chance := func(n int) int {
		seed = seed*1664525 + 1013904223
		return int(seed>>8) % n
	}
	b, s, now := New(), state{}, 0
	did := [9]int{}
	for range 6000 {
		kind, done, alike := play(b, &s, now, chance)
		if !alike {
			t.Fatal(kind, done, "unlike")
		}
		if done {
			did[kind]++
		}
		told(t, "any order", b, s)
		if chance(3) == 0 {
			now++
		}
		if chance(50) == 0 {
			b = b.Fork()
		}
	}
	for _, kind := range []int{0, 5, 6, 7, 8} {
		if did[kind] < 30 {
			t.Error(did, "is little")
		}
	}
}
