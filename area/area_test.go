package area

import (
	"slices"
	"testing"

	"embrasure/api"
)

// state is all that an area tells: its registers, those that are kept (the last ones last), where upcalls come to, and whether it is alive.
type state struct {
	regs    api.Regs
	kept    []api.Regs
	entries map[int]api.Word
	alive   bool
}

// regs are registers that differ with n, and from each other.
func regs(n int) api.Regs {
	s := api.Regs{Pc: api.Word(n * 1000)}
	for r := range s.R {
		s.R[r] = api.Word(n*1000 + r + 1)
	}
	return s
}

// full are registers with all bits.
func full() api.Regs {
	s := api.Regs{Pc: 0xffff}
	for r := range s.R {
		s.R[r] = 0xffff
	}
	return s
}

// called are registers behind an upcall.
func called(s api.Regs, k api.UpcallKind, at, arg api.Word) api.Regs {
	s.Pc = at
	s.R[1] = arg
	s.R[2] = api.Word(k)
	return s
}

// told holds all that an area tells, also of kinds that are none, against what is asked for; what is kept is told by a fork that returns.
func told(t *testing.T, what string, a *Area, want state) {
	t.Helper()
	if got := a.Regs(); got != want.regs {
		t.Fatal(what, "Regs", got, "not", want.regs)
	}
	if got := a.Depth(); got != len(want.kept) {
		t.Fatal(what, "Depth", got, "not", len(want.kept))
	}
	if got := a.Alive(); got != want.alive {
		t.Fatal(what, "Alive", got)
	}
	var kinds []api.UpcallKind
	for k := range 256 {
		at, comes := want.entries[k]
		if comes {
			kinds = append(kinds, api.UpcallKind(k))
		}
		if got, ok := a.Where(api.UpcallKind(k)); got != at || ok != comes {
			t.Fatal(what, "Where", k, got, ok, "not", at, comes)
		}
	}
	if got := a.Entries(); !slices.Equal(got, kinds) {
		t.Fatal(what, "Entries", got, "not", kinds)
	}
	back := a.Fork()
	for k := range want.kept {
		e := back.Return()
		if want := want.kept[len(want.kept)-1-k]; e != api.OK || back.Regs() != want {
			t.Fatal(what, "Return", k, e, back.Regs(), "not", want)
		}
	}
	if got := back.Depth(); got != 0 {
		t.Fatal(what, "Depth behind all", got)
	}
}

// all is where each kind comes to in area.
func all() map[int]api.Word {
	return map[int]api.Word{0: 0, 1: 64, 2: 4, 3: 0xffff, 4: 64}
}

// area is one with registers, in which all kinds come somewhere, and which is called up so many times.
func area(t *testing.T, s api.Regs, times int) (*Area, state) {
	t.Helper()
	a := New(s)
	for k, at := range all() {
		if e := a.Entry(api.UpcallKind(k), at); e != api.OK {
			t.Fatal(k, e)
		}
	}
	want := state{regs: s, entries: all(), alive: true}
	for k := range times {
		kind := api.UpcallKind(k % 5)
		if e := a.Upcall(kind, api.Word(k)); e != api.OK {
			t.Fatal(k, e)
		}
		want.kept = append(want.kept, want.regs)
		want.regs = called(want.regs, kind, all()[k%5], api.Word(k))
	}
	return a, want
}

func TestP14_1New(t *testing.T) {
	for _, s := range []api.Regs{{}, {Pc: 8}, regs(1), regs(40), full(), {R: [8]api.Word{7: 1}}} {
		a := New(s)
		if a == nil {
			t.Fatal("none")
		}
		told(t, "a new one", a, state{regs: s, alive: true})
		a.Entry(2, 2)
		a.Upcall(2, 2)
		told(t, "the next one", New(s), state{regs: s, alive: true})
	}
}

func TestP14_1Example(t *testing.T) {
	a := New(regs(1))
	if a.Entry(api.FaultUp, 64) != api.OK || a.Upcall(api.FaultUp, 300) != api.OK {
		t.Error("Entry, Upcall")
	}
	s := a.Regs()
	if s.Pc != 64 || s.R[1] != 300 || s.R[2] != 1 {
		t.Error(s)
	}
	want := regs(1)
	want.Pc, want.R[1], want.R[2] = 64, 300, 1
	told(t, "the example", a, state{regs: want, kept: []api.Regs{regs(1)}, entries: map[int]api.Word{1: 64}, alive: true})
}

// TestP14_1Entry: each kind alone, at each edge; twice it is the second one.
func TestP14_1Entry(t *testing.T) {
	for k := range 5 {
		a := New(regs(3))
		for _, at := range []api.Word{64, 64, 0, 0xffff, 1, 511, 0} {
			if e := a.Entry(api.UpcallKind(k), at); e != api.OK {
				t.Fatal(k, at, e)
			}
			told(t, "an entry", a, state{regs: regs(3), entries: map[int]api.Word{k: at}, alive: true})
		}
	}
}

// TestP14_2Entries: rising, however they were told.
func TestP14_2Entries(t *testing.T) {
	a, want := New(regs(3)), state{regs: regs(3), entries: map[int]api.Word{}, alive: true}
	for k, kind := range []int{4, 0, 3, 1, 2, 3} {
		if e := a.Entry(api.UpcallKind(kind), api.Word(k)); e != api.OK {
			t.Fatal(kind, e)
		}
		want.entries[kind] = api.Word(k)
		told(t, "rising", a, want)
	}
}

// TestP14_1EntryLate: while it is in upcalls, and when it is not alive: no error is named for it. The next upcall comes there.
func TestP14_1EntryLate(t *testing.T) {
	a, want := area(t, regs(2), 3)
	if e := a.Entry(1, 999); e != api.OK {
		t.Error(e)
	}
	want.entries[1] = 999
	told(t, "in upcalls", a, want)
	if e := a.Upcall(1, 7); e != api.OK || a.Regs().Pc != 999 {
		t.Error(e, a.Regs())
	}
	a.Kill()
	if e := a.Entry(1, 5); e != api.OK {
		t.Error(e)
	}
	want.entries[1] = 5
	told(t, "not alive", a, state{entries: want.entries})
	b := New(regs(1))
	b.Kill()
	if e := b.Entry(4, 8); e != api.OK {
		t.Error(e)
	}
	told(t, "not alive", b, state{entries: map[int]api.Word{4: 8}})
}

// TestP14_1Range: kinds that are none, ahead of all else that stands against it.
func TestP14_1Range(t *testing.T) {
	for times := range 5 {
		for _, alive := range []bool{true, false} {
			a, want := area(t, regs(4), times)
			if !alive {
				a.Kill()
				want = state{entries: all()}
			}
			for k := 5; k < 256; k++ {
				if e := a.Entry(api.UpcallKind(k), 64); e != api.ErrRange {
					t.Fatal("Entry", k, e)
				}
				if e := a.Upcall(api.UpcallKind(k), 64); e != api.ErrRange {
					t.Fatal("Upcall", k, e)
				}
			}
			told(t, "refused", a, want)
		}
	}
}

// TestP14_1Upcall: of each kind, with each word at an edge: the place, registers 1 and 2, and no other.
func TestP14_1Upcall(t *testing.T) {
	for k, at := range all() {
		for _, arg := range []api.Word{0, 1, 300, 0x7fff, 0x8000, 0xffff} {
			for _, s := range []api.Regs{{}, regs(5), full()} {
				a, want := area(t, s, 0)
				if e := a.Upcall(api.UpcallKind(k), arg); e != api.OK {
					t.Fatal(k, arg, e)
				}
				got := a.Regs()
				if got.Pc != at || got.R[1] != arg || got.R[2] != api.Word(k) || got.R[0] != s.R[0] || !slices.Equal(got.R[3:], s.R[3:]) {
					t.Fatal(k, arg, got)
				}
				want.kept, want.regs = []api.Regs{s}, called(s, api.UpcallKind(k), at, arg)
				told(t, "called up", a, want)
			}
		}
	}
}

// TestP14_1UpcallSame: it is in one more, though no register becomes another one.
func TestP14_1UpcallSame(t *testing.T) {
	s := called(regs(1), 3, 40, 9)
	a := New(s)
	a.Entry(3, 40)
	want := state{regs: s, entries: map[int]api.Word{3: 40}, alive: true}
	for range 4 {
		if e := a.Upcall(3, 9); e != api.OK {
			t.Fatal(e)
		}
		want.kept = append(want.kept, s)
		told(t, "the same", a, want)
	}
	for depth := 3; depth >= 0; depth-- {
		if e := a.Return(); e != api.OK {
			t.Fatal(e)
		}
		want.kept = want.kept[:depth]
		told(t, "back", a, want)
	}
}

// TestP14_1UpcallNoent: of kinds that come nowhere, though others do, at each depth: ahead of ErrSpace.
func TestP14_1UpcallNoent(t *testing.T) {
	for there := range 5 {
		a, want := New(regs(1)), state{regs: regs(1), entries: map[int]api.Word{}, alive: true}
		for times := range 6 {
			for k := range 5 {
				if _, comes := want.entries[k]; comes {
					continue
				}
				if e := a.Upcall(api.UpcallKind(k), 1); e != api.ErrNoent {
					t.Fatal(there, times, k, e)
				}
			}
			told(t, "refused", a, want)
			if a.Entry(api.UpcallKind(there), 0) != api.OK {
				t.Fatal(there)
			}
			want.entries[there] = 0
			if e := a.Upcall(api.UpcallKind(there), 2); times < 4 && e == api.OK {
				want.kept = append(want.kept, want.regs)
				want.regs = called(want.regs, api.UpcallKind(there), 0, 2)
			} else if times < 4 || e != api.ErrSpace {
				t.Fatal(there, times, e)
			}
			told(t, "called up", a, want)
		}
	}
}

// TestP14_4Space: in MaxUpcalls - 1 it is called up once more; in MaxUpcalls not, until it returns.
func TestP14_4Space(t *testing.T) {
	a, want := area(t, regs(6), 3)
	for range 3 {
		if e := a.Upcall(4, 77); e != api.OK {
			t.Fatal(e)
		}
		last := want
		last.kept = append(slices.Clone(want.kept), want.regs)
		last.regs = called(want.regs, 4, 64, 77)
		told(t, "in all", a, last)
		for k := range 5 {
			if e := a.Upcall(api.UpcallKind(k), 1); e != api.ErrSpace {
				t.Fatal(k, e)
			}
		}
		told(t, "refused", a, last)
		if e := a.Return(); e != api.OK {
			t.Fatal(e)
		}
		told(t, "one less", a, want)
	}
}

// TestP14_1NotAlive: all calls but Entry are refused, whether upcalls come somewhere or not, however often it was called up.
func TestP14_1NotAlive(t *testing.T) {
	for times := range 5 {
		a, _ := area(t, regs(2), times)
		bare := New(regs(2))
		if a.Kill() != api.OK || bare.Kill() != api.OK {
			t.Fatal(times)
		}
		for _, dead := range []*Area{a, bare} {
			entries := map[int]api.Word(nil)
			if dead == a {
				entries = all()
			}
			for k := range 5 {
				if e := dead.Upcall(api.UpcallKind(k), 3); e != api.ErrState {
					t.Fatal("Upcall", k, e)
				}
			}
			for _, s := range []api.Regs{{}, regs(9)} {
				if e := dead.Set(s); e != api.ErrState {
					t.Fatal("Set", e)
				}
			}
			if dead.Return() != api.ErrState || dead.Kill() != api.ErrState {
				t.Fatal("Return, Kill")
			}
			told(t, "not alive", dead, state{entries: entries})
		}
	}
}

// TestP14_1Return: in none it is refused; behind one and behind many what was kept last comes first.
func TestP14_1Return(t *testing.T) {
	for times := range 5 {
		a, want := area(t, regs(3), times)
		for depth := times; depth > 0; depth-- {
			if e := a.Return(); e != api.OK {
				t.Fatal(times, depth, e)
			}
			want.regs = want.kept[depth-1]
			want.kept = want.kept[:depth-1]
			told(t, "back", a, want)
		}
		for range 2 {
			if e := a.Return(); e != api.ErrState {
				t.Fatal(times, e)
			}
		}
		told(t, "in none", a, state{regs: regs(3), entries: all(), alive: true})
	}
}

// TestP14_1Set: in none and in upcalls; what is kept stays, and comes back.
func TestP14_1Set(t *testing.T) {
	for times := range 5 {
		for _, s := range []api.Regs{{}, regs(8), full()} {
			a, want := area(t, regs(3), times)
			for range 2 {
				if e := a.Set(s); e != api.OK {
					t.Fatal(times, e)
				}
				want.regs = s
				told(t, "set", a, want)
			}
			if times < 4 {
				if e := a.Upcall(0, 6); e != api.OK {
					t.Fatal(times, e)
				}
				want.kept, want.regs = append(want.kept, s), called(s, 0, 0, 6)
				told(t, "called up behind Set", a, want)
			}
		}
	}
}

// TestP14_3TakesBack: Return takes Upcall back, whatever is Set, called up and returned between.
func TestP14_3TakesBack(t *testing.T) {
	for times := range 4 {
		for inner := range 4 - times {
			a, want := area(t, regs(7), times)
			ahead := *a
			a.Upcall(2, 5)
			for k := range inner {
				a.Set(regs(20 + k))
				a.Upcall(api.UpcallKind(k), api.Word(k))
			}
			for range inner {
				a.Set(full())
				a.Return()
			}
			a.Set(regs(30))
			if e := a.Return(); e != api.OK {
				t.Fatal(times, inner, e)
			}
			told(t, "taken back", a, want)
			if *a != ahead {
				t.Error(times, inner, "something is left of it", *a)
			}
		}
	}
}

// TestP14_1Kill: it is alive until then, whatever its registers are; then they are 0, it is in no upcall; where upcalls come to stays.
func TestP14_1Kill(t *testing.T) {
	for times := range 5 {
		for _, s := range []api.Regs{{}, regs(3), full()} {
			a, want := area(t, s, times)
			if times == 0 {
				a.Set(api.Regs{})
				want.regs = api.Regs{}
			}
			told(t, "alive", a, want)
			if e := a.Kill(); e != api.OK {
				t.Fatal(times, e)
			}
			told(t, "killed", a, state{entries: all()})
			if e := a.Kill(); e != api.ErrState {
				t.Fatal(times, e)
			}
			told(t, "killed twice", a, state{entries: all()})
		}
	}
	a := New(api.Regs{})
	if e := a.Kill(); e != api.OK {
		t.Error(e)
	}
	told(t, "of one that had nothing", a, state{})
}

func TestP1NilArea(t *testing.T) {
	var a *Area
	for k := range 256 {
		for _, w := range []api.Word{0, 1, 0xffff} {
			if a.Entry(api.UpcallKind(k), w) != api.ErrNil || a.Upcall(api.UpcallKind(k), w) != api.ErrNil {
				t.Fatal(k, w)
			}
		}
	}
	if a.Return() != api.ErrNil || a.Set(regs(1)) != api.ErrNil || a.Set(api.Regs{}) != api.ErrNil || a.Kill() != api.ErrNil || a.Fork() != nil {
		t.Error("nil")
	}
	told(t, "nil", a, state{})
}

// changes are all calls that change an area that is called up twice; each tells whether it did.
func changes() []func(*Area) bool {
	return []func(*Area) bool{
		func(a *Area) bool { return a.Entry(3, 12) == api.OK },
		func(a *Area) bool { return a.Upcall(4, 9) == api.OK },
		func(a *Area) bool { return a.Return() == api.OK },
		func(a *Area) bool { return a.Return() == api.OK && a.Set(full()) == api.OK && a.Upcall(0, 1) == api.OK },
		func(a *Area) bool { return a.Set(regs(11)) == api.OK },
		func(a *Area) bool { return a.Kill() == api.OK },
	}
}

func TestP4Fork(t *testing.T) {
	for k, change := range changes() {
		a, want := area(t, regs(5), 2)
		f := a.Fork()
		if f == nil || f == a {
			t.Fatal(k)
		}
		told(t, "the fork", f, want)
		if !change(f) {
			t.Error(k, "was refused")
		}
		told(t, "behind the fork's change", a, want)
		f = a.Fork()
		if !change(a) {
			t.Error(k, "was refused")
		}
		told(t, "the fork behind a change", f, want)
		g := f.Fork()
		change(g)
		told(t, "behind a fork's fork", f, want)
	}
	a, _ := area(t, regs(5), 2)
	a.Kill()
	told(t, "the fork of what is not alive", a.Fork(), state{entries: all()})
}

func TestP3ListsAreTheCallers(t *testing.T) {
	a, want := area(t, regs(5), 2)
	b, c, d := a.Entries(), a.Entries(), a.Fork().Entries()
	for k := range b[:cap(b)] {
		b[:cap(b)][k] = 200
	}
	kinds := []api.UpcallKind{0, 1, 2, 3, 4}
	if !slices.Equal(c, kinds) || !slices.Equal(d, kinds) {
		t.Error("answers share room", c, d)
	}
	told(t, "what was handed out", a, want)
	e := New(regs(1))
	e.Entry(2, 1)
	before := e.Entries()
	e.Entry(0, 1)
	if !slices.Equal(before, []api.UpcallKind{2}) {
		t.Error("what was handed out changes", before)
	}
}

func (m *state) entry(k int, at api.Word) api.Errno {
	if k >= 5 {
		return api.ErrRange
	}
	m.entries[k] = at
	return api.OK
}

func (m *state) upcall(k int, arg api.Word) api.Errno {
	at, comes := m.entries[k]
	switch {
	case k >= 5:
		return api.ErrRange
	case !m.alive:
		return api.ErrState
	case !comes:
		return api.ErrNoent
	case len(m.kept) == 4:
		return api.ErrSpace
	}
	m.kept = append(m.kept, m.regs)
	m.regs = called(m.regs, api.UpcallKind(k), at, arg)
	return api.OK
}

func (m *state) back() api.Errno {
	if len(m.kept) == 0 || !m.alive {
		return api.ErrState
	}
	m.regs = m.kept[len(m.kept)-1]
	m.kept = m.kept[:len(m.kept)-1]
	return api.OK
}

func (m *state) set(s api.Regs) api.Errno {
	if !m.alive {
		return api.ErrState
	}
	m.regs = s
	return api.OK
}

func (m *state) kill() api.Errno {
	if !m.alive {
		return api.ErrState
	}
	*m = state{entries: m.entries}
	return api.OK
}

// TestE1AnyOrder holds areas against the model through calls made by a rule, wrong ones among them.
func TestE1AnyOrder(t *testing.T) {
	seed := uint32(1414)
	chance := func(n int) int {
		seed = seed*1664525 + 1013904223
		return int(seed>>8) % n
	}
	done, refused := [5]int{}, [15]int{}
	for life := range 300 {
		a, m := New(regs(life)), &state{regs: regs(life), entries: map[int]api.Word{}, alive: true}
		for range 100 {
			k, w, kind := chance(6), api.Word(chance(1<<16)), []int{0, 1, 1, 1, 2, 3}[chance(6)]
			if chance(60) == 0 {
				kind = 4
			}
			var e, want api.Errno
			switch kind {
			case 0:
				e, want = a.Entry(api.UpcallKind(k), w), m.entry(k, w)
			case 1:
				e, want = a.Upcall(api.UpcallKind(k), w), m.upcall(k, w)
			case 2:
				e, want = a.Return(), m.back()
			case 3:
				s := regs(int(w))
				e, want = a.Set(s), m.set(s)
			case 4:
				e, want = a.Kill(), m.kill()
			}
			if e != want || a.Depth() < 0 || a.Depth() > 4 {
				t.Fatal(kind, k, w, e, want, a.Depth())
			}
			if refused[e]++; e == api.OK {
				done[kind]++
			}
			told(t, "any order", a, *m)
			if chance(20) == 0 {
				a = a.Fork()
			}
		}
	}
	for _, e := range []api.Errno{api.ErrRange, api.ErrState, api.ErrNoent, api.ErrSpace} {
		if refused[e] < 100 {
			t.Error(e, refused[e], "is little")
		}
	}
	for kind, many := range done {
		if many < 100 {
			t.Error(kind, many, "is little")
		}
	}
}
