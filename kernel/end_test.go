package kernel

import (
	"slices"
	"testing"

	"embrasure/api"
)

// TestP16_3UpcallNowhere: of TimerUp, DiskUp and RevokeUp it goes on, of the others it ends; it was not called up.
func TestP16_3UpcallNowhere(t *testing.T) {
	goesOn := map[api.UpcallKind]int{api.TimerUp: 1, api.DiskUp: 1, api.RevokeUp: 1}
	for kind := range api.UpcallKind(255) {
		p := both(t)
		if p.upcall(0, kind, 5) {
			t.Error(kind, "was called up")
		}
		if p.k.Alive(0) != (goesOn[kind] == 1) || !p.k.Alive(1) || p.k.Depth(0) != 0 {
			t.Error(kind, p.k.Alive(0))
		}
	}
}

// TestP16_3Upcall: of each kind, in none and in some; at MaxUpcalls it ends.
func TestP16_3Upcall(t *testing.T) {
	for kind := range api.UpcallKind(5) {
		for _, arg := range []api.Word{0, 1, 300, 0xffff} {
			p := both(t)
			p.set(0, api.Regs{Pc: 12, R: [8]api.Word{9, 9, 9, 9}})
			p.must(0, api.EntryCall, api.Word(kind), 64, 0)
			for depth := range 4 {
				if !p.upcall(0, kind, arg) || p.k.Depth(0) != depth+1 {
					t.Fatal(kind, depth)
				}
				if s := p.k.Regs(0); s != (api.Regs{Pc: 64, R: [8]api.Word{9, arg, api.Word(kind), 9}}) {
					t.Fatal(kind, s)
				}
			}
			if p.upcall(0, kind, arg) || p.k.Alive(0) {
				t.Error(kind, "in too many it ends")
			}
			if p.upcall(0, kind, arg) {
				t.Error(kind, "of what does not live")
			}
		}
	}
}

// TestP16_3UpcallFull: at MaxUpcalls a kind that comes nowhere is ErrNoent still: that comes first.
func TestP16_3UpcallFull(t *testing.T) {
	for kind := range api.UpcallKind(5) {
		p := both(t)
		other := (kind + 1) % 5
		p.must(0, api.EntryCall, api.Word(other), 64, 0)
		for range 4 {
			p.upcall(0, other, 1)
		}
		goesOn := kind == api.TimerUp || kind == api.DiskUp || kind == api.RevokeUp
		if p.upcall(0, kind, 1) || p.k.Alive(0) != goesOn {
			t.Error(kind, p.k.Alive(0))
		}
	}
}

func TestP16_3UpcallNotAlive(t *testing.T) {
	p := crowd(t)
	for _, env := range dead() {
		for kind := range 256 {
			if p.k.Upcall(env, api.UpcallKind(kind), 5) {
				t.Fatal(env, kind)
			}
		}
	}
	p.told("nothing")
}

// rich is a pair in which environment 0 has something of everything, and 1 has much of 0's.
func rich(t *testing.T) *pair {
	t.Helper()
	p := disk(t)
	p.must(0, api.AllocCall, 7, 0, 0)
	p.must(0, api.AllocCall, 6, 0, 0)
	p.must(0, api.GiveCall, 0, 1, 0)
	p.must(1, api.GiveCall, 0, 0, 0)
	p.must(1, api.AllocCall, 5, 1, 0)
	p.must(0, api.MapCall, 9, 3, 1)
	p.must(0, api.MapCall, 10, 7, 0)
	p.must(0, api.MapCall, 11, 5, 1)
	p.must(1, api.MapCall, 9, 7, 1)
	p.must(1, api.MapCall, 10, 5, 1)
	for kind := range api.Word(5) {
		p.must(0, api.EntryCall, kind, kind*8, 0)
	}
	p.set(0, api.Regs{Pc: 20, R: [8]api.Word{1, 2, 3, 4, 5, 6, 7, 8}})
	p.upcall(0, api.FaultUp, 77)
	for core := range 2 {
		for env := range uint8(2) {
			p.slice(core, env, 2+int(env))
			p.over(core, env, 6)
			for _, page := range []api.Word{0, 9, 10} {
				p.load(core, env, page*32, true)
			}
		}
	}
	for _, r := range [][3]api.Word{{0, 0, 0}, {1, 5, 3}, {0, 1, 3}, {1, 1, 7}, {1, 2, 5}, {0, 5, 1}, {1, 5, 4}} {
		p.must(uint8(r[0]), api.ReadCall+api.CallKind(r[1]%2), r[1], r[2], 0)
	}
	p.store(0, 0, 9*32+4, 0x0909, true)
	p.revoke(0, 6, 0)
	p.tick()
	p.revoke(0, 7, 50)
	p.revoke(1, 5, 3)
	p.revoke(0, 1, 4)
	p.must(0, api.ReturnCall, 0, 0, 0)
	p.probe("rich")
	return p
}

// TestP16_3Exit: all that is out behind it, and what stays.
func TestP16_3Exit(t *testing.T) {
	p := rich(t)
	if len(p.k.Maps(0)) != 6 || len(p.k.Waiting()) != 7 || len(p.k.Asked()) != 3 || len(p.k.Lost(0)) != 1 || p.k.Depth(0) != 3 || len(p.k.Tlb(0)) != 6 {
		t.Fatal(p.k.Maps(0), p.k.Waiting(), p.k.Asked(), p.k.Lost(0), p.k.Depth(0), p.k.Tlb(0))
	}
	events := len(p.k.Events())
	if e := p.exit(0); e != api.OK {
		t.Fatal(e)
	}
	if p.k.Alive(0) || p.k.Regs(0) != (api.Regs{}) || p.k.Depth(0) != 0 || len(p.k.Slots(0)) != 0 || len(p.k.Maps(0)) != 0 || len(p.k.Lost(0)) != 0 || len(p.k.Frames(0)) != 0 {
		t.Error("something is left of it")
	}
	if c, e := p.k.Cap(0, 0); c != (api.Cap{}) || e != api.ErrNoent {
		t.Error(c, e)
	}
	freed := []api.Event{{Kind: api.Freed, Frame: 0}, {Kind: api.Freed, Frame: 1}, {Kind: api.Freed, Frame: 2}, {Kind: api.Freed, Frame: 7}}
	if !slices.Equal(p.k.Events()[events:], freed) {
		t.Error("rising", p.k.Events()[events:])
	}
	for core := range 2 {
		if p.k.Taken(core, 2) || !p.k.Taken(core, 3) {
			t.Error("slices", core)
		}
		for _, m := range p.k.Tlb(core) {
			if m.Asid == 0 || m.Frame == 7 {
				t.Error("at hand", core, m)
			}
		}
	}
	want := []api.Request{{Id: 2, Write: true, Sector: 5, Frame: 3, Owner: 1}, {Id: 5, Sector: 2, Frame: 5, Owner: 1}, {Id: 7, Write: true, Sector: 5, Frame: 4, Owner: 1}}
	if !slices.Equal(p.k.Waiting(), want) {
		t.Error(p.k.Waiting())
	}
	if !slices.Equal(p.k.Asked(), []api.Asked{{Env: 1, Frame: 5, Until: 4}}) {
		t.Error(p.k.Asked())
	}
	for _, frame := range []int{0, 1, 2, 6, 7} {
		if b, _ := p.k.Frame(frame); slices.Max(b) != 0 {
			t.Error(frame, b)
		}
	}
	for sector := range 3 {
		if _, had := p.k.extents.At(sector); had {
			t.Error("sector", sector)
		}
	}
	if b, _ := p.k.Frame(3); b[4] != 9 || b[5] != 9 {
		t.Error("another one's frame, which it had written", b)
	}
	p.probe("behind it")
	if e := p.exit(0); e != api.ErrNoent {
		t.Error("twice", e)
	}
}

func TestP16_3ExitErrors(t *testing.T) {
	p := crowd(t)
	for _, env := range dead() {
		if e := p.exit(env); e != api.ErrNoent {
			t.Error(env, e)
		}
	}
}

// TestP16_3ExitEachWay: however it ends, it leaves the same.
func TestP16_3ExitEachWay(t *testing.T) {
	for k, end := range []func(*pair){
		func(p *pair) { p.exit(0) },
		func(p *pair) { p.must(0, api.ExitCall, 0, 0, 0) },
		func(p *pair) { p.upcall(0, 5, 0) },
		func(p *pair) { p.upcall(0, 255, 0xffff) },
		func(p *pair) { p.upcall(0, api.CallUp, 0); p.upcall(0, api.TimerUp, 0) },
		func(p *pair) { p.upcall(0, api.CallUp, 0); p.revoke(0, 2, 9) },
		func(p *pair) { p.upcall(0, api.CallUp, 0); p.deliver(0) },
	} {
		p := rich(t)
		end(p)
		if p.k.Alive(0) || len(p.k.Frames(0)) != 0 {
			t.Error(k)
		}
		p.probe("ended")
		p.exit(1)
		if len(p.k.Waiting())+len(p.k.Asked())+len(p.k.Tlb(0))+len(p.k.Tlb(1)) != 0 || len(guarded(p.k)) != 0 {
			t.Error(k, "what ends leaves something")
		}
	}
}

// guarded are the guards of all frames that somebody has.
func guarded(k *Kernel) []string {
	var l []string
	for frame := range uint8(64) {
		if g, had := k.Guard(frame); had {
			l = append(l, g.Name)
		}
	}
	return l
}

// TestE4NumbersAreNotGivenAgain: an environment that comes behind one that ended has another name, and opens nothing of its.
func TestE4NumbersAreNotGivenAgain(t *testing.T) {
	p := both(t)
	p.must(0, api.GiveCall, 0, 1, 0)
	p.exit(0)
	env, e := p.spawn(nil, 3)
	if env != 2 || e != api.OK || !slices.Equal(p.k.Frames(2), []uint8{0, 1, 2}) {
		t.Fatal(env, e)
	}
	p.refused(api.ErrPerm, 1, api.MapCall, 5, 0, 0)
	if c, e := p.k.Cap(2, 0); c.Name != "/e2" || e != api.OK {
		t.Error(c, e)
	}
	for _, frame := range []int{0, 1, 2} {
		if b, _ := p.k.Frame(frame); slices.Max(b) != 0 {
			t.Error("what it is given is 0", frame, b)
		}
	}
}
