package machine

import (
	"math"
	"slices"
	"testing"

	"embrasure/api"
)

func TestP1NilMachine(t *testing.T) {
	var m *Machine
	for _, n := range []int{math.MinInt, -1, 0, 1, 5, 255, math.MaxInt} {
		if env, line, e := m.Load("nop", n, n, n); env != 0 || line != 0 || e != api.ErrNil {
			t.Error(n, env, line, e)
		}
		if env, line, e := m.Load("foo", n, n, n); env != 0 || line != 0 || e != api.ErrNil {
			t.Error("ahead of a text that does not assemble", env, line, e)
		}
		if s, e := m.Step(n); s != (api.Step{}) || e != api.ErrNil {
			t.Error(n, s, e)
		}
		if r, e := m.Deliver(n); r != (api.Request{}) || e != api.ErrNil {
			t.Error(n, r, e)
		}
		if e := m.Revoke(uint8(n), uint8(n), n); e != api.ErrNil {
			t.Error(n, e)
		}
		if len(m.Run(n, n)) != 0 || len(m.Run()) != 0 || len(m.Run(nil...)) != 0 || m.Used(n) != 0 {
			t.Error(n)
		}
		if env, ok := m.Running(n); env != 0 || ok {
			t.Error(n, env, ok)
		}
	}
	if m.Kernel() != nil || m.Fork() != nil {
		t.Error("something of nil")
	}
}

// disk is a machine of eight frames, four sectors and two cores: environment 0 has frames 0 to 2 and sector 1, of which it asked to write frame 2 to the sector, and to read it to frame 1.
func disk(t *testing.T) *Machine {
	t.Helper()
	m := begin(t, 8, 4, 2)
	put(t, m, forever, 3, 0, 0)
	put(t, m, forever, 2, 1, 3)
	k := m.Kernel()
	k.Extent(0, 1, 1)
	k.Store(0, 0, 70, 99, false)
	if v, e := k.Call(0, api.WriteCall, 1, 2, 0); v != 1 || e != api.OK {
		t.Fatal(v, e)
	}
	if v, e := k.Call(0, api.ReadCall, 1, 1, 0); v != 2 || e != api.OK {
		t.Fatal(v, e)
	}
	k.Call(0, api.EntryCall, api.Word(api.DiskUp), 64, 0)
	k.Call(0, api.EntryCall, api.Word(api.RevokeUp), 68, 0)
	return m
}

// TestP17_3Deliver: as the kernel's, also where it is refused; no time goes on.
func TestP17_3Deliver(t *testing.T) {
	for _, i := range append(outside(), 0, 1, 2, 3) {
		for _, ended := range []bool{false, true} {
			m := disk(t)
			steps(t, m, 0, 2)
			if ended {
				m.Kernel().Call(0, api.DropCall, 0, 0, 0)
			}
			k := m.Kernel().Fork()
			r, e := m.Deliver(i)
			want, f := k.Deliver(i)
			alike(t, "Deliver", r, want)
			alike(t, "Deliver", e, f)
			alike(t, "Deliver", kernelTells(m.Kernel()), kernelTells(k))
			runs(t, m, 0, 0, 2)
		}
	}
	m := disk(t)
	if r, e := m.Deliver(0); r != (api.Request{Id: 1, Write: true, Sector: 1, Frame: 2}) || e != api.OK {
		t.Error(r, e)
	}
	if b, _ := m.Kernel().Sector(1); b[6] != 99 || m.Kernel().Depth(0) != 1 || m.Kernel().Regs(0).Pc != 64 {
		t.Error(b, m.Kernel().Regs(0))
	}
	if r, e := m.Deliver(1); r != (api.Request{}) || e != api.ErrRange {
		t.Error(r, e)
	}
	m.Kernel().Exit(0)
	if len(m.Kernel().Waiting()) != 0 {
		t.Error(m.Kernel().Waiting())
	}
}

// TestP17_3Revoke: as the kernel's, with each of its errors.
func TestP17_3Revoke(t *testing.T) {
	for _, env := range []uint8{0, 1, 2, 6, 255} {
		for _, frame := range []uint8{0, 2, 3, 4, 5, 8, 64, 255} {
			for _, within := range []int{math.MinInt, -1, 0, 1, 1000, 1001, math.MaxInt} {
				m := disk(t)
				steps(t, m, 0, 2)
				k := m.Kernel().Fork()
				for range 2 {
					alike(t, "Revoke", m.Revoke(env, frame, within), k.Revoke(env, frame, within))
					alike(t, "Revoke", kernelTells(m.Kernel()), kernelTells(k))
				}
				runs(t, m, 0, 0, 2)
			}
		}
	}
	m := disk(t)
	for want, e := range map[api.Errno]api.Errno{api.OK: m.Revoke(0, 2, 5), api.ErrExist: m.Revoke(0, 2, 5), api.ErrPerm: m.Revoke(0, 3, 5), api.ErrNoent: m.Revoke(2, 2, 5), api.ErrRange: m.Revoke(0, 1, 1001)} {
		if e != want {
			t.Error(e, "not", want)
		}
	}
	if m.Kernel().Regs(0).Pc != 68 || m.Kernel().Regs(0).R[1] != 2 {
		t.Error("not called up", m.Kernel().Regs(0))
	}
}

// TestP17_3Run: a step of each core that there is, in their order; others are passed.
func TestP17_3Run(t *testing.T) {
	for _, l := range [][]int{nil, {}, {0}, {1}, {0, 1, 0, 1, 1}, {-1, 0, 2, 1, 3, math.MinInt, 1, math.MaxInt, 0}, {2, 3, -1}, outside()} {
		d := &duo{t: t, m: disk(t)}
		d.p = plainOf(d.m)
		var want []api.Step
		for _, core := range l {
			if s, e := d.p.step(core); e == api.OK {
				want = append(want, s)
			}
		}
		if got := d.m.Run(l...); !slices.Equal(got, want) {
			t.Error(l, got, "not", want)
		}
		d.same("behind Run")
	}
}

// TestP17_3RunIdle: idle steps are steps, too.
func TestP17_3RunIdle(t *testing.T) {
	m := begin(t, 8, 2, 2)
	if got := m.Run(0, 1, 5, 0); !slices.Equal(got, make([]api.Step, 3)) || m.Kernel().Time() != 3 {
		t.Error(got, m.Kernel().Time())
	}
}

// TestP17_3RunMost: at most 200 steps; cores that there are not are not counted.
func TestP17_3RunMost(t *testing.T) {
	for _, c := range []struct{ none, many, want int }{{0, 199, 199}, {0, 200, 200}, {0, 201, 200}, {0, 1000, 200}, {300, 150, 150}, {300, 250, 200}, {1, 200, 200}, {500, 0, 0}} {
		m := disk(t)
		l := m.Run(append(times(7, c.none), times(1, c.many)...)...)
		if len(l) != c.want || m.Kernel().Time() != c.want {
			t.Error(c, len(l), m.Kernel().Time())
		}
		for _, s := range l {
			if s != (api.Step{Kind: api.Ran, Env: 1}) {
				t.Fatal(c, s)
			}
		}
	}
}

// TestP17_3NoCore: of no such core none runs.
func TestP17_3NoCore(t *testing.T) {
	m := disk(t)
	steps(t, m, 0, 2)
	steps(t, m, 1, 3)
	runs(t, m, 0, 0, 2)
	runs(t, m, 1, 1, 3)
	for _, core := range append(outside(), 2, 3) {
		rests(t, m, core)
	}
}

// TestP17_3Kernel: what is done to it is done to the machine, and the other way round; it is the same each time.
func TestP17_3Kernel(t *testing.T) {
	m := begin(t, 8, 2, 2)
	k := m.Kernel()
	env, e := k.Spawn([]byte{2, 0x10, 0, 9}, 2)
	if e != api.OK || k.Slice(1, env, 4) != api.OK {
		t.Fatal(e)
	}
	if s := step(t, m, 1); s != (api.Step{Kind: api.Ran}) || k.Regs(0).R[1] != 9 || k.Time() != 1 {
		t.Error(s, k.Regs(0), k.Time())
	}
	k.Set(0, api.Regs{Pc: 500})
	if s := step(t, m, 1); s != (api.Step{Kind: api.Faulted, Word: 500}) || k.Alive(0) || m.Kernel() != k {
		t.Error(s)
	}
	if env := put(t, m, "nop", 2, 0, 0); env != 1 || k.Envs() != 2 {
		t.Error(env)
	}
}

// TestP4Fork: what becomes of a machine's fork changes nothing of it, and the other way round; both go on alike.
func TestP4Fork(t *testing.T) {
	for n, change := range []func(m *Machine){
		func(m *Machine) { m.Step(0) },
		func(m *Machine) { m.Step(1) },
		func(m *Machine) { m.Run(0, 0, 0, 0, 0, 0, 1, 1) },
		func(m *Machine) { m.Load("nop", 2, 0, 5) },
		func(m *Machine) { m.Deliver(0) },
		func(m *Machine) { m.Revoke(0, 1, 1); m.Step(1) },
		func(m *Machine) { m.Kernel().Exit(0) },
		func(m *Machine) { m.Kernel().Store(0, 1, 10, 5, true) },
		func(m *Machine) { m.Kernel().Set(1, api.Regs{Pc: 4}) },
		func(m *Machine) { m.Kernel().Slice(0, 1, 6); m.Run(0, 0, 0, 0, 0, 0) },
	} {
		m := disk(t)
		steps(t, m, 0, 3)
		steps(t, m, 1, 5)
		was := tells(m)
		f := m.Fork()
		if f == nil || f == m || f.Kernel() == m.Kernel() {
			t.Fatal(n, "one and the same")
		}
		alike(t, "the fork", tells(f), was)
		change(f)
		alike(t, "behind the fork's change", tells(m), was)
		g := m.Fork()
		change(m)
		alike(t, "a fork behind a change", tells(g), was)
		alike(t, "both changed alike", tells(m), tells(f))
		change(g)
		alike(t, "all changed alike", tells(g), tells(m))
		for range 30 {
			for core := range 2 {
				alike(t, "both go on alike", step(t, m, core), step(t, f, core))
			}
		}
		alike(t, "both went on alike", tells(m), tells(f))
	}
}

// TestP4BothGoOn: a machine and its fork go their own ways for long.
func TestP4BothGoOn(t *testing.T) {
	chance := chances(4)
	d := newDuo(t, 16, 4, 2)
	for range 4 {
		d.settle(chance)
	}
	f := &duo{t, d.m.Fork(), plainOf(d.m)}
	one, two := chances(1), chances(2)
	for range 300 {
		d.play(one)
		f.same("the fork")
		f.play(two)
		d.same("the first")
	}
}

// TestP3Lists: what Run was given stays, and what it answers is the caller's.
func TestP3Lists(t *testing.T) {
	m := disk(t)
	cores := []int{0, 1, 5, 0, 1, 1, 0}
	given := slices.Clone(cores)
	l := m.Run(cores[:4]...)
	if !slices.Equal(cores, given) {
		t.Error(cores)
	}
	was, kept := tells(m), slices.Clone(l)
	next := m.Fork().Run(0, 0, 0)
	if !slices.Equal(l, kept) {
		t.Error("what was answered changes", l)
	}
	for k := range l[:cap(l)] {
		l[:cap(l)][k] = api.Step{Kind: 9, Env: 9, Word: 9, Errno: 9}
	}
	alike(t, "what was answered is written over", tells(m), was)
	alike(t, "the same again", m.Run(0, 0, 0), next)
}

// TestP6TwoMachines: nothing is kept but in a machine.
func TestP6TwoMachines(t *testing.T) {
	one := disk(t)
	want := one.Fork().Run(0, 1, 0, 1)
	other := disk(t)
	other.Run(times(0, 150)...)
	alike(t, "the same steps", one.Run(0, 1, 0, 1), want)
	alike(t, "a new one", disk(t).Run(0, 1, 0, 1), want)
}
