package pool

import (
	"math"
	"slices"
	"testing"

	"embrasure/api"
	"embrasure/name"
)

// guard is one that is right.
func guard() api.Cap {
	return api.Cap{Name: "/e/0", Rights: api.Read}
}

// wrong are guards that are not right.
func wrong() []api.Cap {
	return []api.Cap{{}, {Rights: api.Read}, {Name: "a"}, {Name: "/a/"}, {Name: "/A"}, {Name: "/abcdefg"}, {Name: "/a/b/c/d/e/f/g"}, {Name: "/\xff"}, {Name: "/", Rights: 32}, {Name: "/a", Rights: 255}}
}

// event is what became of a frame.
func event(kind api.EventKind, env, frame uint8) api.Event {
	return api.Event{Kind: kind, Env: env, Frame: frame}
}

// grant gives an environment frames, behind guard.
func grant(t *testing.T, p *Pool, env uint8, frames ...uint8) {
	t.Helper()
	for _, frame := range frames {
		if e := p.Grant(env, frame, guard()); e != api.OK {
			t.Fatal(env, frame, e)
		}
	}
}

// share lets others have an environment's frame.
func share(t *testing.T, p *Pool, from, frame uint8, to ...uint8) {
	t.Helper()
	for _, env := range to {
		if e := p.Share(from, env, frame); e != api.OK {
			t.Fatal(from, env, frame, e)
		}
	}
}

// history is who has which frame, as events alone tell it: of each frame its environments.
func history(l []api.Event) [64][6]bool {
	var has [64][6]bool
	for _, v := range l {
		has[v.Frame][v.Env] = v.Kind == api.Granted || v.Kind == api.Shared
	}
	return has
}

// told holds all that a pool tells against its events, and these against what is asked for.
func told(t *testing.T, what string, p *Pool, want ...api.Event) {
	t.Helper()
	if got := p.Events(); !slices.Equal(got, want) {
		t.Fatalf("%s: %v, not %v", what, got, want)
	}
	has := history(want)
	var room []uint8
	var frames [6][]uint8
	for frame := range 256 {
		var owners []uint8
		for env := range 256 {
			holds := frame < 64 && env < 6 && has[frame][env]
			if holds {
				owners = append(owners, uint8(env))
				frames[env] = append(frames[env], uint8(frame))
			}
			if p.Holds(uint8(env), uint8(frame)) != holds {
				t.Fatal(what, "Holds", env, frame)
			}
		}
		if got := p.Owners(uint8(frame)); !slices.Equal(got, owners) {
			t.Fatal(what, "Owners", frame, got, owners)
		}
		if c, ok := p.Guard(uint8(frame)); ok != (len(owners) > 0) || !ok && c != (api.Cap{}) || ok && !name.Right(c) {
			t.Fatal(what, "Guard", frame, c, ok)
		}
		if len(owners) == 0 && frame < p.Size() {
			room = append(room, uint8(frame))
		}
	}
	for env := range 256 {
		var want []uint8
		if env < 6 {
			want = frames[env]
		}
		if got := p.Frames(uint8(env)); !slices.Equal(got, want) {
			t.Fatal(what, "Frames", env, got, want)
		}
	}
	if got := p.Room(); !slices.Equal(got, room) {
		t.Fatal(what, "Room", got, room)
	}
}

func TestP10_1New(t *testing.T) {
	for _, n := range []int{0, -1, 65, 66, 256, 257, -64, 1<<32 + 1, math.MinInt, math.MaxInt} {
		if p := New(n); p != nil {
			t.Error(n)
		}
	}
	for n := 1; n <= 64; n++ {
		p := New(n)
		if p == nil || p.Size() != n {
			t.Fatal(n, p.Size())
		}
		told(t, "a new one", p)
	}
}

func TestP10_1Example(t *testing.T) {
	p := New(8)
	if p.Grant(0, 5, guard()) != api.OK || p.Share(0, 1, 5) != api.OK {
		t.Error("refused")
	}
	if nobody, e := p.Free(0, 5); nobody || e != api.OK {
		t.Error(nobody, e)
	}
	if l := p.Owners(5); !slices.Equal(l, []uint8{1}) {
		t.Error(l)
	}
	told(t, "the example", p, event(api.Granted, 0, 5), event(api.Shared, 1, 5), event(api.Freed, 0, 5))
}

// TestP10_1AllAtFirst: each may have all frames, of a pool of any size.
func TestP10_1AllAtFirst(t *testing.T) {
	for _, size := range []int{1, 2, 3, 63, 64} {
		for env := range uint8(6) {
			p, want := New(size), []api.Event(nil)
			for frame := range uint8(size) {
				grant(t, p, env, frame)
				want = append(want, event(api.Granted, env, frame))
			}
			told(t, "all", p, want...)
			for other := range uint8(6) {
				for frame := range uint8(size) {
					if other != env {
						share(t, p, env, frame, other)
						want = append(want, event(api.Shared, other, frame))
					}
				}
			}
			told(t, "all of all", p, want...)
		}
	}
}

// TestP10_1GrantRange: environments and frames that are none, ahead of a guard that is not right, ahead of all else.
func TestP10_1GrantRange(t *testing.T) {
	for _, size := range []int{1, 5, 64} {
		p := New(size)
		grant(t, p, 0, 0)
		for env := range 256 {
			p.Quota(uint8(env), 0)
			for frame := range 256 {
				if env < 6 && frame < size {
					continue
				}
				for _, g := range []api.Cap{guard(), {}, {Name: "/", Rights: 32}} {
					if e := p.Grant(uint8(env), uint8(frame), g); e != api.ErrRange {
						t.Fatal(size, env, frame, e)
					}
				}
			}
		}
		told(t, "refused", p, event(api.Granted, 0, 0))
	}
}

// TestP10_1GrantErrors: a wrong guard ahead of a frame that somebody has, ahead of the quota.
func TestP10_1GrantErrors(t *testing.T) {
	p := New(4)
	grant(t, p, 1, 2)
	p.Quota(0, 0)
	p.Quota(1, 1)
	for env := range uint8(6) {
		for _, g := range wrong() {
			for frame := range uint8(4) {
				if e := p.Grant(env, frame, g); e != api.ErrForm {
					t.Error(env, frame, g, e)
				}
			}
		}
		if e := p.Grant(env, 2, guard()); e != api.ErrExist {
			t.Error(env, e)
		}
	}
	for env := range uint8(2) {
		for _, frame := range []uint8{0, 1, 3} {
			if e := p.Grant(env, frame, guard()); e != api.ErrQuota {
				t.Error(env, frame, e)
			}
		}
	}
	told(t, "refused", p, event(api.Granted, 1, 2))
}

// TestP10_1GrantAgain: a frame that nobody has any more leaves nothing (E4), and is given again, behind another guard.
func TestP10_1GrantAgain(t *testing.T) {
	p := New(64)
	other := api.Cap{Name: "/other/ω", Rights: api.AllRights}
	grant(t, p, 3, 63)
	if c, ok := p.Guard(63); c != guard() || !ok {
		t.Error(c, ok)
	}
	if nobody, e := p.Free(3, 63); !nobody || e != api.OK {
		t.Error(nobody, e)
	}
	if c, ok := p.Guard(63); c != (api.Cap{}) || ok {
		t.Error(c, ok)
	}
	if e := p.Grant(5, 63, other); e != api.OK {
		t.Error(e)
	}
	if c, ok := p.Guard(63); c != other || !ok {
		t.Error(c, ok)
	}
	told(t, "again", p, event(api.Granted, 3, 63), event(api.Freed, 3, 63), event(api.Granted, 5, 63))
}

// TestP10_2Guard: each frame has its own, which stays as long as somebody has it; one without rights is one, too.
func TestP10_2Guard(t *testing.T) {
	p := New(3)
	guards := []api.Cap{{Name: "/"}, {Name: "/a", Rights: api.AllRights}}
	for frame, g := range guards {
		if e := p.Grant(uint8(frame), uint8(frame), g); e != api.OK {
			t.Error(frame, e)
		}
	}
	share(t, p, 0, 0, 4, 5)
	p.Free(0, 0)
	p.Free(5, 0)
	for frame, g := range guards {
		if c, ok := p.Guard(uint8(frame)); c != g || !ok {
			t.Error(frame, c, ok)
		}
		if e := p.Grant(2, uint8(frame), guard()); e != api.ErrExist {
			t.Error(frame, e)
		}
	}
	for _, frame := range []uint8{2, 3, 63, 64, 255} {
		if c, ok := p.Guard(frame); c != (api.Cap{}) || ok {
			t.Error(frame, c, ok)
		}
	}
}

func TestP10_1QuotaRange(t *testing.T) {
	p := New(4)
	for _, n := range []int{-1, 65, 66, 256, 320, -64, 1 << 32, math.MinInt, math.MaxInt} {
		for env := range 256 {
			if e := p.Quota(uint8(env), n); e != api.ErrRange {
				t.Fatal(env, n, e)
			}
		}
	}
	for env := range 256 {
		for _, n := range []int{0, 1, 4, 5, 63, 64} {
			want := api.ErrRange
			if env < 6 {
				want = api.OK
			}
			if e := p.Quota(uint8(env), n); e != want {
				t.Fatal(env, n, e)
			}
		}
	}
	told(t, "no event", p)
	grant(t, p, 0, 0, 1, 2, 3)
}

// TestP10_4Quota: up to it and no further (E7), by Grant and by Share, for each environment alone.
func TestP10_4Quota(t *testing.T) {
	for n := range 65 {
		p := New(64)
		if e := p.Quota(2, n); e != api.OK {
			t.Fatal(n, e)
		}
		for frame := range uint8(64) {
			want := api.OK
			if int(frame) >= n {
				want = api.ErrQuota
			}
			if e := p.Grant(2, frame, guard()); e != want {
				t.Fatal(n, frame, e)
			}
		}
		if len(p.Frames(2)) != n || len(p.Events()) != n || len(p.Room()) != 64-n {
			t.Fatal(n, p.Frames(2))
		}
		for frame := n; frame < 64; frame++ {
			grant(t, p, 1, uint8(frame))
			if e := p.Share(1, 2, uint8(frame)); e != api.ErrQuota {
				t.Fatal(n, frame, e)
			}
		}
		if n == 0 || n == 64 {
			continue
		}
		if _, e := p.Free(2, 0); e != api.OK {
			t.Fatal(n, e)
		}
		share(t, p, 1, 63, 2)
		if e := p.Grant(2, 0, guard()); e != api.ErrQuota {
			t.Fatal(n, e)
		}
	}
}

// TestP10_4QuotaBelow: what one has is kept; nothing more comes until one has fewer than one may.
func TestP10_4QuotaBelow(t *testing.T) {
	p := New(8)
	grant(t, p, 4, 0, 1, 2, 3)
	grant(t, p, 0, 7)
	p.Quota(4, 2)
	if l := p.Frames(4); !slices.Equal(l, []uint8{0, 1, 2, 3}) {
		t.Error(l)
	}
	for k, frame := range []uint8{0, 1, 2} {
		if p.Grant(4, 6, guard()) != api.ErrQuota || p.Share(0, 4, 7) != api.ErrQuota {
			t.Error(k)
		}
		if _, e := p.Free(4, frame); e != api.OK {
			t.Error(frame, e)
		}
	}
	if e := p.Share(0, 4, 7); e != api.OK {
		t.Error(e)
	}
	if p.Grant(4, 6, guard()) != api.ErrQuota {
		t.Error("more than it may")
	}
	p.Quota(4, 3)
	grant(t, p, 4, 6)
	p.Quota(4, 0)
	told(t, "kept", p,
		event(api.Granted, 4, 0), event(api.Granted, 4, 1), event(api.Granted, 4, 2), event(api.Granted, 4, 3), event(api.Granted, 0, 7),
		event(api.Freed, 4, 0), event(api.Freed, 4, 1), event(api.Freed, 4, 2), event(api.Shared, 4, 7), event(api.Granted, 4, 6))
}

// TestP10_1Share: to each of the others, by each that has it.
func TestP10_1Share(t *testing.T) {
	for from := range uint8(6) {
		p, want := New(64), []api.Event{event(api.Granted, from, 63)}
		grant(t, p, from, 63)
		at := from
		for k := range uint8(5) {
			to := (from + k + 1) % 6
			share(t, p, at, 63, to)
			want = append(want, event(api.Shared, to, 63))
			told(t, "shared", p, want...)
			at = to
		}
	}
}

// TestP10_1ShareErrors: what is none, what one has not, one that has it, oneself, the quota, in this order.
func TestP10_1ShareErrors(t *testing.T) {
	p := New(4)
	grant(t, p, 0, 1)
	share(t, p, 0, 1, 2)
	for env := range uint8(6) {
		p.Quota(env, 0)
	}
	for from := range 256 {
		for to := range 256 {
			for _, frame := range []uint8{0, 1, 2, 3, 4, 63, 64, 255} {
				want := api.ErrQuota
				if from >= 6 || to >= 6 || frame >= 4 {
					want = api.ErrRange
				} else if frame != 1 || from != 0 && from != 2 {
					want = api.ErrPerm
				} else if to == 0 || to == 2 {
					want = api.ErrExist
				}
				if e := p.Share(uint8(from), uint8(to), frame); e != want {
					t.Fatal(from, to, frame, e, want)
				}
			}
		}
	}
	told(t, "refused", p, event(api.Granted, 0, 1), event(api.Shared, 2, 1))
}

// TestP10_1FreeLast: of several the last one leaves nobody, in any order.
func TestP10_1FreeLast(t *testing.T) {
	for many := range uint8(6) {
		for first := range many + 1 {
			p := New(2)
			grant(t, p, 0, 1)
			want := []api.Event{event(api.Granted, 0, 1)}
			for env := range many {
				share(t, p, 0, 1, env+1)
				want = append(want, event(api.Shared, env+1, 1))
			}
			for k := range many + 1 {
				env := (first + k) % (many + 1)
				if nobody, e := p.Free(env, 1); nobody != (k == many) || e != api.OK {
					t.Fatal(many, env, nobody, e)
				}
				want = append(want, event(api.Freed, env, 1))
				told(t, "freed", p, want...)
				if nobody, e := p.Free(env, 1); nobody || e != api.ErrPerm {
					t.Fatal(many, env, nobody, e, "twice")
				}
			}
		}
	}
}

// TestP10_1TakeErrors: of Free and Repossess what is none, ahead of what one has not.
func TestP10_1TakeErrors(t *testing.T) {
	p := New(5)
	grant(t, p, 3, 0, 1, 2)
	grant(t, p, 4, 3)
	want := p.Events()
	for env := range 256 {
		for frame := range 256 {
			if env == 3 && frame < 3 || env == 4 && frame == 3 {
				continue
			}
			e := api.ErrPerm
			if env >= 6 || frame >= 5 {
				e = api.ErrRange
			}
			if nobody, got := p.Free(uint8(env), uint8(frame)); nobody || got != e {
				t.Fatal("Free", env, frame, nobody, got)
			}
			if nobody, got := p.Repossess(uint8(env), uint8(frame)); nobody || got != e {
				t.Fatal("Repossess", env, frame, nobody, got)
			}
		}
	}
	told(t, "refused", p, want...)
}

// TestP10_5Repossess: down to MinFrames and no further, of frames that one has alone and of shared ones.
func TestP10_5Repossess(t *testing.T) {
	for has := range uint8(8) {
		for frame := range has {
			p := New(8)
			var want []api.Event
			for k := range has {
				grant(t, p, 1, k)
				want = append(want, event(api.Granted, 1, k))
			}
			nobody, e := p.Repossess(1, frame)
			if has <= 2 {
				if nobody || e != api.ErrState {
					t.Fatal(has, frame, nobody, e)
				}
			} else if want = append(want, event(api.Repossessed, 1, frame)); !nobody || e != api.OK {
				t.Fatal(has, frame, nobody, e)
			}
			told(t, "repossessed", p, want...)
		}
	}
	p := New(8)
	grant(t, p, 0, 0, 1, 2, 3)
	share(t, p, 0, 3, 5)
	for k, frame := range []uint8{3, 0} {
		if nobody, e := p.Repossess(0, frame); nobody != (k == 1) || e != api.OK {
			t.Error(frame, nobody, e)
		}
	}
	for _, frame := range []uint8{1, 2} {
		if nobody, e := p.Repossess(0, frame); nobody || e != api.ErrState {
			t.Error(frame, nobody, e)
		}
	}
	if nobody, e := p.Repossess(5, 3); nobody || e != api.ErrState {
		t.Error(nobody, e)
	}
	if l := p.Frames(0); !slices.Equal(l, []uint8{1, 2}) {
		t.Error(l)
	}
	if nobody, e := p.Free(0, 1); !nobody || e != api.OK {
		t.Error("what one gives up oneself is not held back:", nobody, e)
	}
}

// TestP10_5RepossessNotByQuota: the least is MinFrames, whatever one may have.
func TestP10_5RepossessNotByQuota(t *testing.T) {
	for _, quota := range []int{0, 1, 2, 3, 64} {
		p := New(8)
		grant(t, p, 2, 5, 6, 7)
		p.Quota(2, quota)
		if nobody, e := p.Repossess(2, 7); !nobody || e != api.OK {
			t.Error(quota, nobody, e)
		}
		if nobody, e := p.Repossess(2, 6); nobody || e != api.ErrState {
			t.Error(quota, nobody, e)
		}
	}
}

// TestP10_2Rising: whatever the order in which they came.
func TestP10_2Rising(t *testing.T) {
	p := New(64)
	for k := range 64 {
		grant(t, p, 5, uint8(k*37%64))
	}
	share(t, p, 5, 10, 3, 0, 4, 1)
	for _, frame := range []uint8{63, 0, 31, 62, 5} {
		if nobody, e := p.Free(5, frame); !nobody || e != api.OK {
			t.Error(frame, nobody, e)
		}
	}
	if l := p.Owners(10); !slices.Equal(l, []uint8{0, 1, 3, 4, 5}) {
		t.Error(l)
	}
	if l := p.Room(); !slices.Equal(l, []uint8{0, 5, 31, 62, 63}) {
		t.Error(l)
	}
	if l := p.Frames(5); len(l) != 59 || !slices.IsSorted(l) {
		t.Error(l)
	}
}

func TestP1NilPool(t *testing.T) {
	var p *Pool
	for n := range 256 {
		a := uint8(n)
		if p.Quota(a, n) != api.ErrNil || p.Quota(a, -1) != api.ErrNil || p.Grant(a, a, guard()) != api.ErrNil || p.Grant(a, a, api.Cap{}) != api.ErrNil || p.Share(a, a, a) != api.ErrNil || p.Share(0, 1, a) != api.ErrNil {
			t.Error(n)
		}
		if nobody, e := p.Free(a, a); nobody || e != api.ErrNil {
			t.Error(n, nobody, e)
		}
		if nobody, e := p.Repossess(a, a); nobody || e != api.ErrNil {
			t.Error(n, nobody, e)
		}
		if c, ok := p.Guard(a); c != (api.Cap{}) || ok || p.Holds(a, a) || len(p.Owners(a)) != 0 || len(p.Frames(a)) != 0 {
			t.Error(n, c, ok)
		}
	}
	if len(p.Room()) != 0 || len(p.Events()) != 0 || p.Size() != 0 || p.Fork() != nil {
		t.Error(p.Room(), p.Events(), p.Size())
	}
}

// changes are all calls that change a pool of which environment 0 has the frames 0 to 2, and 1 frame 0, too; each tells whether it did.
func changes() []func(*Pool) bool {
	return []func(*Pool) bool{
		func(p *Pool) bool { return p.Grant(3, 5, api.Cap{Name: "/new"}) == api.OK },
		func(p *Pool) bool { return p.Share(0, 2, 1) == api.OK },
		func(p *Pool) bool { _, e := p.Free(0, 0); return e == api.OK },
		func(p *Pool) bool { nobody, e := p.Free(0, 1); return nobody && e == api.OK },
		func(p *Pool) bool { nobody, e := p.Repossess(0, 2); return nobody && e == api.OK },
		func(p *Pool) bool {
			p.Free(0, 1)
			return p.Grant(0, 1, api.Cap{Name: "/new"}) == api.OK
		},
	}
}

func TestP4Fork(t *testing.T) {
	for k, change := range changes() {
		p := New(8)
		grant(t, p, 0, 0, 1, 2)
		share(t, p, 0, 0, 1)
		want := p.Events()
		check := func(what string, x *Pool) {
			t.Helper()
			told(t, what, x, want...)
			for frame := range uint8(3) {
				if c, ok := x.Guard(frame); c != guard() || !ok {
					t.Error(k, what, frame, c, ok)
				}
			}
			if x.Size() != 8 {
				t.Error(k, what, x.Size())
			}
		}
		f := p.Fork()
		if f == nil || f == p {
			t.Fatal(k)
		}
		check("the fork", f)
		if !change(f) {
			t.Error(k, "was refused")
		}
		check("behind the fork's change", p)
		f = p.Fork()
		change(p)
		check("the fork behind a change", f)
		g := f.Fork()
		change(g)
		check("behind a fork's fork", f)
	}
}

// TestP4ForkQuota: what the one may have is its own.
func TestP4ForkQuota(t *testing.T) {
	p := New(8)
	p.Quota(0, 1)
	f := p.Fork()
	f.Quota(0, 2)
	grant(t, f, 0, 0, 1)
	grant(t, p, 0, 0)
	if p.Grant(0, 1, guard()) != api.ErrQuota || f.Grant(0, 2, guard()) != api.ErrQuota {
		t.Error("more than it may")
	}
	p.Quota(0, 8)
	if f.Grant(0, 2, guard()) != api.ErrQuota {
		t.Error("more than it may")
	}
}

// TestP4BothGrow: the events of both, and of several forks, go on behind one another's, however many there were.
func TestP4BothGrow(t *testing.T) {
	for many := range 40 {
		p := New(64)
		for frame := range many {
			grant(t, p, 0, uint8(frame))
		}
		past := p.Events()
		f, g := p.Fork(), p.Fork()
		h := f.Fork()
		for k := range uint8(3) {
			for env, x := range []*Pool{p, f, g, h} {
				grant(t, x, uint8(env), uint8(50)+k)
			}
		}
		for env, x := range []*Pool{p, f, g, h} {
			want := slices.Clone(past)
			for k := range uint8(3) {
				want = append(want, event(api.Granted, uint8(env), 50+k))
			}
			told(t, "both grow", x, want...)
		}
	}
}

func TestP3ListsAreTheCallers(t *testing.T) {
	p := New(8)
	for k := range uint8(5) {
		grant(t, p, 0, k)
		share(t, p, 0, k, 1, 2)
	}
	want := p.Events()
	for _, list := range []func() []uint8{
		func() []uint8 { return p.Owners(2) },
		func() []uint8 { return p.Frames(1) },
		p.Room,
	} {
		first, a, b := list(), list(), list()
		clear(a[:cap(a)])
		if !slices.Equal(b, first) {
			t.Error("two answers share room", a, b)
		}
		for k := range b[:cap(b)] {
			b[:cap(b)][k] = 3
		}
		told(t, "what was handed out", p, want...)
	}
	a, b := p.Events(), p.Events()
	clear(a[:cap(a)])
	if !slices.Equal(b, want) {
		t.Error("two answers share room")
	}
	told(t, "what was handed out", p, want...)
	c, d := append(p.Events(), event(api.Freed, 5, 5)), append(p.Fork().Events(), event(api.Freed, 4, 4))
	grant(t, p, 3, 7)
	if !slices.Equal(c, append(slices.Clone(want), event(api.Freed, 5, 5))) || !slices.Equal(d, append(slices.Clone(want), event(api.Freed, 4, 4))) {
		t.Error(c, d)
	}
	told(t, "behind what was appended", p, append(want, event(api.Granted, 3, 7))...)
}

// model is what is asked for, as plainly as it is said.
type model struct {
	size   int
	has    map[[2]uint8]bool // an environment and a frame
	may    [6]int
	guards map[uint8]api.Cap
	events []api.Event
}

func (m *model) owners(frame uint8) int {
	n := 0
	for env := range uint8(6) {
		if m.has[[2]uint8{env, frame}] {
			n++
		}
	}
	return n
}

func (m *model) many(env uint8) int {
	n := 0
	for k := range m.has {
		if k[0] == env {
			n++
		}
	}
	return n
}

func (m *model) there(env, frame uint8) bool {
	return env < 6 && int(frame) < m.size
}

func (m *model) grant(env, frame uint8, g api.Cap) api.Errno {
	switch {
	case !m.there(env, frame):
		return api.ErrRange
	case !name.Right(g):
		return api.ErrForm
	case m.owners(frame) > 0:
		return api.ErrExist
	case m.many(env) >= m.may[env]:
		return api.ErrQuota
	}
	m.has[[2]uint8{env, frame}] = true
	m.guards[frame] = g
	m.events = append(m.events, event(api.Granted, env, frame))
	return api.OK
}

func (m *model) share(from, to, frame uint8) api.Errno {
	switch {
	case !m.there(from, frame) || !m.there(to, frame):
		return api.ErrRange
	case !m.has[[2]uint8{from, frame}]:
		return api.ErrPerm
	case m.has[[2]uint8{to, frame}]:
		return api.ErrExist
	case m.many(to) >= m.may[to]:
		return api.ErrQuota
	}
	m.has[[2]uint8{to, frame}] = true
	m.events = append(m.events, event(api.Shared, to, frame))
	return api.OK
}

func (m *model) take(kind api.EventKind, env, frame uint8) (bool, api.Errno) {
	switch {
	case !m.there(env, frame):
		return false, api.ErrRange
	case !m.has[[2]uint8{env, frame}]:
		return false, api.ErrPerm
	case kind == api.Repossessed && m.many(env) <= 2:
		return false, api.ErrState
	}
	delete(m.has, [2]uint8{env, frame})
	m.events = append(m.events, event(kind, env, frame))
	return m.owners(frame) == 0, api.OK
}

func (m *model) quota(env uint8, n int) api.Errno {
	if env >= 6 || n < 0 || n > 64 {
		return api.ErrRange
	}
	m.may[env] = n
	return api.OK
}

// TestP10_3AnyOrder holds a pool against the model through calls made by a rule, wrong ones among them; who has a frame is told by the events (E2).
func TestP10_3AnyOrder(t *testing.T) {
	seed := uint32(10)
	chance := func(n int) int {
		seed = seed*1664525 + 1013904223
		return int(seed>>8) % n
	}
	guards := []api.Cap{guard(), {Name: "/"}, {Name: "/a/β", Rights: 31}, {Name: "/A"}, {Name: "/a", Rights: 1}}
	for _, size := range []int{1, 3, 9, 64} {
		p, m := New(size), &model{size: size, has: map[[2]uint8]bool{}, may: [6]int{size, size, size, size, size, size}, guards: map[uint8]api.Cap{}}
		for range 20000 {
			env, to, frame := uint8(chance(7)), uint8(chance(7)), uint8(chance(size+1))
			switch chance(8) {
			case 0, 1, 2:
				g := guards[chance(len(guards))]
				if e, want := p.Grant(env, frame, g), m.grant(env, frame, g); e != want {
					t.Fatal("Grant", env, frame, g, e, want)
				}
			case 3, 4:
				if e, want := p.Share(env, to, frame), m.share(env, to, frame); e != want {
					t.Fatal("Share", env, to, frame, e, want)
				}
			case 5:
				nobody, e := p.Free(env, frame)
				if last, want := m.take(api.Freed, env, frame); nobody != last || e != want {
					t.Fatal("Free", env, frame, nobody, e, last, want)
				}
			case 6:
				nobody, e := p.Repossess(env, frame)
				if last, want := m.take(api.Repossessed, env, frame); nobody != last || e != want {
					t.Fatal("Repossess", env, frame, nobody, e, last, want)
				}
			case 7:
				n := chance(size+4) - 1
				if e, want := p.Quota(env, n), m.quota(env, n); e != want {
					t.Fatal("Quota", env, n, e, want)
				}
			}
			for frame := range uint8(size) {
				c, ok := p.Guard(frame)
				if had := m.owners(frame) > 0; ok != had || ok && c != m.guards[frame] {
					t.Fatal("Guard", frame, c, ok)
				}
			}
		}
		told(t, "any order", p, m.events...)
		if len(m.events) < 500 {
			t.Error(size, len(m.events), "is little")
		}
	}
}

// TestP10_2Many: a long history is told as quickly as it came.
func TestP10_2Many(t *testing.T) {
	p := New(1)
	for range 200000 {
		p.Grant(0, 0, guard())
		p.Free(0, 0)
	}
	if n := len(p.Events()); n != 400000 {
		t.Error(n)
	}
}
