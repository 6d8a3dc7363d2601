package machine

import (
	"testing"

	"embrasure/api"
	"embrasure/cpu"
	"embrasure/isa"
	"embrasure/kernel"
)

// plain is a machine written out plainly, above a kernel of its own: of each core the environment that it runs (-1: none), and its steps.
type plain struct {
	k    *kernel.Kernel
	env  []int
	used []int
}

// plainOf is a plain one that is as a machine.
func plainOf(m *Machine) *plain {
	p := &plain{k: m.Kernel().Fork()}
	for core := range p.k.Cores() {
		env, ok := m.Running(core)
		p.env = append(p.env, -1)
		if ok {
			p.env[core] = int(env)
		}
		p.used = append(p.used, m.Used(core))
	}
	return p
}

func (p *plain) step(core int) (api.Step, api.Errno) {
	if core < 0 || core >= len(p.env) {
		return api.Step{}, api.ErrRange
	}
	p.k.Tick()
	if p.env[core] == -1 || !p.k.Alive(uint8(p.env[core])) {
		p.env[core], p.used[core] = -1, 0
		env, ok := p.k.Turn(core)
		if !ok {
			return api.Step{}, api.OK
		}
		p.env[core] = int(env)
	}
	env := uint8(p.env[core])
	s := p.instruction(core, env)
	s.Env = env
	p.used[core]++
	p.slice(core, env, s)
	return s, api.OK
}

// slice is what becomes of a slice behind a step.
func (p *plain) slice(core int, env uint8, s api.Step) {
	used := p.used[core]
	over := false
	if !p.k.Alive(env) {
		p.env[core], p.used[core] = -1, 0
		return
	} else if s.Kind == 2 && s.Word == 11 {
		over = true
	} else if used == 6 {
		over = !p.k.Upcall(env, 0, api.Word(p.k.Time()%65536))
	} else if used == 14 {
		over = true
	}
	if over {
		more := used - 6
		if more < 0 {
			more = 0
		}
		p.k.Over(core, env, more)
		p.env[core], p.used[core] = -1, 0
	}
}

func (p *plain) fault(env uint8, at api.Word) api.Step {
	p.k.Upcall(env, 1, at)
	return api.Step{Kind: 3, Word: at}
}

func (p *plain) end(env uint8) api.Step {
	p.k.Exit(env)
	return api.Step{Kind: 4}
}

func (p *plain) instruction(core int, env uint8) api.Step {
	was := p.k.Regs(env)
	if was.Pc%4 != 0 || was.Pc > 508 {
		return p.fault(env, was.Pc)
	}
	one, e := p.k.Load(core, env, was.Pc, true)
	if e != 0 {
		return p.fault(env, was.Pc)
	}
	two, e := p.k.Load(core, env, was.Pc+2, true)
	if e != 0 {
		return p.fault(env, was.Pc)
	}
	i, e := isa.Decode([]byte{byte(one / 256), byte(one % 256), byte(two / 256), byte(two % 256)})
	if e != 0 || i.Op == api.Halt || i.Op == api.Div && was.R[i.B] == 0 {
		return p.end(env)
	}
	now, _ := cpu.Exec(was, i)
	addr := was.R[i.B] + i.Imm
	wide := i.Op == api.Ld || i.Op == api.St
	switch i.Op {
	case api.Ld, api.Ldb:
		v, e := p.k.Load(core, env, addr, wide)
		if e != 0 {
			return p.fault(env, addr)
		}
		now.R[i.A] = v
	case api.St, api.Stb:
		if e := p.k.Store(core, env, addr, was.R[i.A], wide); e != 0 {
			return p.fault(env, addr)
		}
	case api.Sys:
		return p.call(env, i.Imm, now)
	}
	p.k.Set(env, now)
	return api.Step{Kind: 1}
}

func (p *plain) call(env uint8, n api.Word, now api.Regs) api.Step {
	p.k.Set(env, now)
	kind := api.CallKind(0)
	if n < 256 {
		kind = api.CallKind(n)
	}
	v, e := p.k.Call(env, kind, now.R[1], now.R[2], now.R[3])
	if kind == 17 {
		return api.Step{Kind: 4}
	}
	if kind != 9 || e != 0 {
		now = p.k.Regs(env)
		now.R[0], now.R[1] = api.Word(e), v
		p.k.Set(env, now)
	}
	return api.Step{Kind: 2, Word: n, Errno: e}
}

// tells is what the plain one tells.
func (p *plain) tells() view {
	v := view{beneath: kernelTells(p.k)}
	for core := range p.env {
		if p.env[core] >= 0 {
			v.cores[core+1] = coreView{uint8(p.env[core]), true, p.used[core]}
		}
	}
	return v
}

// duo is a machine and a plain one, with which the same is done.
type duo struct {
	t *testing.T
	m *Machine
	p *plain
}

func newDuo(t *testing.T, frames, sectors, cores int) *duo {
	t.Helper()
	m := begin(t, frames, sectors, cores)
	return &duo{t, m, plainOf(m)}
}

func (d *duo) same(what string) {
	d.t.Helper()
	alike(d.t, what, tells(d.m), d.p.tells())
}

func (d *duo) step(core int) api.Step {
	d.t.Helper()
	s, e := d.m.Step(core)
	want, f := d.p.step(core)
	alike(d.t, "step", s, want)
	alike(d.t, "step's error", e, f)
	d.same("behind a step")
	return s
}

// settle loads a hostile program, with sectors and places for upcalls; false: there is no room for it.
func (d *duo) settle(chance func(int) int) bool {
	core := chance(d.m.Kernel().Cores())
	env, _, e := d.m.Load(hostile(chance), 3+chance(2), core, chance(8))
	if e == api.ErrExist {
		return true
	}
	if e != api.OK {
		return false
	}
	k := d.m.Kernel()
	if at := chance(4); chance(4) > 0 {
		frames := k.Frames(env)
		k.Extent(env, at, 1+chance(3))
		k.Call(env, api.ReadCall+api.CallKind(chance(2)), api.Word(at), api.Word(frames[chance(len(frames))]), 0)
	}
	for kind := range api.Word(5) {
		if chance(3) > 0 {
			k.Call(env, api.EntryCall, kind, api.Word(4*chance(8)), 0)
		}
	}
	if chance(2) == 0 {
		k.Call(env, api.GiveCall, 0, api.Word(chance(int(env)+1)), 0)
	}
	if chance(4) == 0 {
		k.Slice(chance(k.Cores()), env, chance(8))
	}
	d.p = plainOf(d.m)
	d.same("settled")
	return true
}

// play lets something be done; it tells what, and whether it was.
func (d *duo) play(chance func(int) int) (string, bool) {
	d.t.Helper()
	switch what := chance(20); what {
	case 0:
		env, frame, within := uint8(chance(5)), uint8(chance(17)), chance(6)-1
		e := d.m.Revoke(env, frame, within)
		alike(d.t, "Revoke", e, d.p.k.Revoke(env, frame, within))
		d.same("behind Revoke")
		return "revoke", e == api.OK
	case 1:
		i := chance(4) - 1
		r, e := d.m.Deliver(i)
		want, f := d.p.k.Deliver(i)
		alike(d.t, "Deliver", r, want)
		alike(d.t, "Deliver's error", e, f)
		d.same("behind Deliver")
		return "deliver", e == api.OK
	case 2:
		d.m = d.m.Fork()
		d.same("a fork")
		return "fork", true
	}
	s := d.step(chance(d.m.Kernel().Cores()+2) - 1)
	return []string{"idle", "ran", "called", "faulted", "ended"}[s.Kind], true
}
