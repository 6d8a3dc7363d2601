package kernel

import (
	"math"
	"slices"
	"testing"

	"embrasure/api"
)

func TestP1NilKernel(t *testing.T) {
	var k *Kernel
	for _, n := range []int{math.MinInt, -1, 0, 1, 5, 255, math.MaxInt} {
		env := uint8(n)
		v, e := k.Spawn([]byte{1}, n)
		x, f := k.Extent(env, n, n)
		if v != 0 || e != api.ErrNil || x != 0 || f != api.ErrNil || k.Slice(n, env, n) != api.ErrNil || k.Quota(env, n) != api.ErrNil {
			t.Error(n, v, e, x, f)
		}
		for kind := range 256 {
			if v, e := k.Call(env, api.CallKind(kind), api.Word(n), 0, 0); v != 0 || e != api.ErrNil {
				t.Error(kind, v, e)
			}
			if k.Upcall(env, api.UpcallKind(kind), 0) {
				t.Error(kind)
			}
		}
		for _, wide := range []bool{true, false} {
			if v, e := k.Load(n, env, api.Word(n), wide); v != 0 || e != api.ErrNil || k.Store(n, env, api.Word(n), 1, wide) != api.ErrNil {
				t.Error(n, v, e)
			}
		}
		if k.Exit(env) != api.ErrNil || k.Revoke(env, env, n) != api.ErrNil || len(k.Tick()) != 0 || k.Over(n, env, n) != api.ErrNil || k.Set(env, api.Regs{Pc: 1}) != api.ErrNil {
			t.Error(n)
		}
		if r, e := k.Deliver(n); r != (api.Request{}) || e != api.ErrNil {
			t.Error(n, r, e)
		}
		if env, ok := k.Turn(n); env != 0 || ok {
			t.Error(n, env, ok)
		}
		nilTells(t, k, n)
	}
}

// nilTells is what a nil kernel tells.
func nilTells(t *testing.T, k *Kernel, n int) {
	t.Helper()
	env := uint8(n)
	if k.Regs(env) != (api.Regs{}) || k.Alive(env) || k.Depth(env) != 0 || len(k.Maps(env))+len(k.Slots(env))+len(k.Frames(env))+len(k.Lost(env)) != 0 || k.Opens(env, api.Cap{Name: "/"}) {
		t.Error(n)
	}
	c, e := k.Cap(env, n)
	b, f := k.Frame(n)
	s, g := k.Sector(n)
	if c != (api.Cap{}) || e != api.ErrNil || len(b) != 0 || f != api.ErrNil || len(s) != 0 || g != api.ErrNil {
		t.Error(n, c, e, b, f, s, g)
	}
	if c, ok := k.Guard(env); c != (api.Cap{}) || ok || len(k.Tlb(n)) != 0 || k.Taken(n, n) {
		t.Error(n, c, ok)
	}
	if len(k.Events())+len(k.Log())+len(k.Asked())+len(k.Waiting())+k.Time()+k.Cores()+k.Envs() != 0 || k.Fork() != nil {
		t.Error(n)
	}
}

// TestP16_5Outside: all that is told of numbers far behind what there is.
func TestP16_5Outside(t *testing.T) {
	p := rich(t)
	for _, n := range outside() {
		b, e := p.k.Frame(n)
		s, f := p.k.Sector(n)
		if len(b)+len(s) != 0 || e != api.ErrRange || f != api.ErrRange || len(p.k.Tlb(n)) != 0 || p.k.Taken(n, 2) || p.k.Taken(0, n) || p.k.Taken(n, n) {
			t.Error(n)
		}
		if c, e := p.k.Cap(0, n); c != (api.Cap{}) || e != api.ErrRange {
			t.Error(n, c, e)
		}
	}
	for frame := 8; frame < 256; frame++ {
		if c, ok := p.k.Guard(uint8(frame)); c != (api.Cap{}) || ok {
			t.Error(frame, c, ok)
		}
	}
	for env := 2; env < 256; env++ {
		p.toldOf(uint8(env))
	}
}

// TestP16_5Maps: by their pages, however they were made.
func TestP16_5Maps(t *testing.T) {
	p := both(t)
	for _, page := range []api.Word{15, 4, 9, 0, 12, 3} {
		p.must(0, api.MapCall, page, 2, page%2)
	}
	var pages []uint8
	for _, m := range p.k.Maps(0) {
		pages = append(pages, m.Page)
	}
	if !slices.Equal(pages, []uint8{0, 1, 2, 3, 4, 9, 12, 15}) {
		t.Error(pages)
	}
}

// changes are all calls that change a pair that is rich.
func changes() []func(*pair) {
	return []func(*pair){
		func(p *pair) { p.must(0, api.FreeCall, 1, 0, 0); p.spawn([]byte{4, 5}, 2) },
		func(p *pair) { p.extent(1, 3, 2) },
		func(p *pair) { p.slice(1, 1, 7) },
		func(p *pair) { p.quota(0, 1) },
		func(p *pair) { p.must(1, api.AllocCall, 6, 0, 0) },
		func(p *pair) { p.must(0, api.FreeCall, 7, 0, 0) },
		func(p *pair) { p.must(0, api.MapCall, 0, 2, 0) },
		func(p *pair) { p.must(0, api.MapCall, 4, 2, 0) },
		func(p *pair) { p.must(0, api.UnmapCall, 9, 0, 0) },
		func(p *pair) { p.must(0, api.GiveCall, 0, 1, 0) },
		func(p *pair) { p.must(0, api.RestrictCall, 0, 5, 1) },
		func(p *pair) { p.must(1, api.DropCall, 1, 0, 0) },
		func(p *pair) { p.must(0, api.EntryCall, 1, 500, 0) },
		func(p *pair) { p.must(0, api.ReturnCall, 0, 0, 0) },
		func(p *pair) { p.must(1, api.EntryCall, 2, 500, 0); p.must(0, api.CallCall, 1, 9, 0) },
		func(p *pair) { p.must(0, api.ReadCall, 0, 1, 0) },
		func(p *pair) { p.must(0, api.WriteCall, 0, 1, 0) },
		func(p *pair) { p.must(0, api.LostCall, 0, 0, 0) },
		func(p *pair) { p.must(0, api.ExitCall, 0, 0, 0) },
		func(p *pair) { p.load(0, 0, 32, true) },
		func(p *pair) { p.store(0, 1, 32, 0x7777, true) },
		func(p *pair) { p.upcall(0, api.TimerUp, 3) },
		func(p *pair) { p.exit(1) },
		func(p *pair) { p.revoke(0, 2, 8) },
		func(p *pair) { p.tick() },
		func(p *pair) { p.tick(); p.tick(); p.tick(); p.tick() },
		func(p *pair) { p.deliver(0) },
		func(p *pair) { p.deliver(1) },
		func(p *pair) { p.turn(0); p.turn(0) },
		func(p *pair) { p.over(1, 0, 9) },
		func(p *pair) { p.set(1, api.Regs{Pc: 3}) },
	}
}

// TestP4Fork: what becomes of a fork changes nothing of the first one, and the other way round, also of what no call tells.
func TestP4Fork(t *testing.T) {
	for k, change := range changes() {
		p := rich(t)
		f := p.fork()
		if f.k == nil || f.k == p.k {
			t.Fatal(k)
		}
		f.told("the fork")
		change(f)
		p.probe("behind the fork's change")
		f = p.fork()
		change(p)
		f.probe("the fork behind a change")
		g := f.fork()
		change(g)
		f.probe("behind a fork's fork")
	}
}

// TestP4BothGoOn: a kernel and its fork go their own ways for long, from which none comes to the other one.
func TestP4BothGoOn(t *testing.T) {
	p := rich(t)
	f := p.fork()
	one, two := chances(3), chances(4)
	for range 150 {
		p.play(one)
		f.told("the fork")
		f.play(two)
		p.told("the first")
	}
}

// spoil writes over a list, also behind its end.
func spoil[T any](l []T, with T) {
	l = l[:cap(l)]
	for i := range l {
		l[i] = with
	}
}

// spoilAll writes over all that a kernel tells in lists.
func spoilAll(k *Kernel) {
	for env := range uint8(3) {
		spoil(k.Maps(env), api.Mapping{Asid: 5, Page: 5, Frame: 5})
		spoil(k.Slots(env), 11)
		spoil(k.Frames(env), 60)
		spoil(k.Lost(env), 60)
	}
	for n := range 8 {
		b, _ := k.Frame(n)
		spoil(b, 99)
		b, _ = k.Sector(n)
		spoil(b, 99)
		spoil(k.Tlb(n), api.Mapping{Asid: 5, Page: 5, Frame: 5})
	}
	spoil(k.Events(), api.Event{Kind: 9})
	spoil(k.Log(), api.Noted{Env: 9})
	spoil(k.Asked(), api.Asked{Env: 9})
	spoil(k.Waiting(), api.Request{Id: 99})
}

func TestP3ListsAreTheCallers(t *testing.T) {
	p := rich(t)
	f := p.fork()
	spoilAll(p.k)
	p.probe("what was handed out")
	f.probe("what was handed out, of the fork")
	spoilAll(f.k)
	p.probe("what the fork handed out")
	p.revoke(0, 2, 1)
	spoil(p.k.Tick(), api.Asked{Env: 9})
	p.m.tick()
	p.probe("what Tick answered")
}

// TestP3ListsStay: what was handed out is not changed by what becomes of the kernel.
func TestP3ListsStay(t *testing.T) {
	p := rich(t)
	frame, _ := p.k.Frame(0)
	sector, _ := p.k.Sector(1)
	maps, slots, frames, lost, hand := p.k.Maps(0), p.k.Slots(0), p.k.Frames(0), p.k.Lost(0), p.k.Tlb(0)
	events, log, asked, waiting := p.k.Events(), p.k.Log(), p.k.Asked(), p.k.Waiting()
	was := []int{int(frame[0]), int(sector[0]), len(maps), len(slots), len(frames), len(lost), len(hand), len(events), len(log), len(asked), len(waiting)}
	same := p.k.Fork()
	p.exit(0)
	p.spawn(make([]byte, 64), 2)
	chance := chances(5)
	for range 100 {
		p.play(chance)
	}
	now := []int{int(frame[0]), int(sector[0]), len(maps), len(slots), len(frames), len(lost), len(hand), len(events), len(log), len(asked), len(waiting)}
	if !slices.Equal(was, now) || !slices.Equal(maps, same.Maps(0)) || !slices.Equal(slots, same.Slots(0)) || !slices.Equal(frames, same.Frames(0)) || !slices.Equal(lost, same.Lost(0)) || !slices.Equal(hand, same.Tlb(0)) || !slices.Equal(events, same.Events()) || !slices.Equal(log, same.Log()) || !slices.Equal(asked, same.Asked()) || !slices.Equal(waiting, same.Waiting()) {
		t.Error("what was handed out changes")
	}
}

// TestE7Limits: what passes a limit is refused, and all goes on.
func TestE7Limits(t *testing.T) {
	p := newPair(t, 64, 64, 3)
	for n := range 6 {
		if _, e := p.spawn(count(320), 10); e != api.OK {
			t.Fatal(n, e)
		}
	}
	for frame := 60; frame < 64; frame++ {
		p.must(5, api.AllocCall, api.Word(frame), 0, 0)
	}
	p.refused(api.ErrExist, 0, api.AllocCall, 63, 0, 0)
	p.refused(api.ErrRange, 0, api.AllocCall, 64, 0, 0)
	p.must(5, api.MapCall, 15, 63, 1)
	if e := p.store(2, 5, 511, 9, false); e != api.OK {
		t.Error(e)
	}
	p.extent(5, 63, 1)
	if id := p.must(5, api.WriteCall, 63, 63, 0); id != 1 {
		t.Error(id)
	}
	if _, e := p.deliver(0); e != api.OK {
		t.Error(e)
	}
	if b, _ := p.k.Sector(63); b[31] != 9 {
		t.Error(b)
	}
	p.revoke(5, 63, 0)
	if l := p.tick(); len(l) != 1 {
		t.Error(l)
	}
	right(t, p.k, 64)
}
