package kernel

import (
	"bytes"
	"math"
	"slices"
	"testing"

	"embrasure/api"
)

// three is a pair with an environment of five frames, one of three, and one of two, of twelve.
func three(t *testing.T) *pair {
	t.Helper()
	p := newPair(t, 12, 2, 2)
	for n, frames := range []int{5, 3, 2} {
		if env, e := p.spawn(count(frames*32), frames); int(env) != n || e != api.OK {
			t.Fatal(env, e)
		}
	}
	return p
}

func TestP16_4RevokeErrors(t *testing.T) {
	p := crowd(t)
	for _, env := range dead() {
		for _, within := range []int{-1, 0, 1001} {
			if e := p.revoke(env, 0, within); e != api.ErrNoent {
				t.Fatal(env, within, e)
			}
		}
	}
	for _, frame := range []uint8{3, 5, 6, 7, 8, 63, 64, 128, 255} {
		for _, within := range []int{-1, 0, 1001} {
			if e := p.revoke(0, frame, within); e != api.ErrPerm {
				t.Fatal(frame, within, e)
			}
		}
	}
	p.revoke(0, 2, 5)
	for _, within := range []int{-1, math.MinInt, 1001, 1<<32 + 1, math.MaxInt} {
		for _, frame := range []uint8{0, 2} {
			if e := p.revoke(0, frame, within); e != api.ErrRange {
				t.Fatal(within, e)
			}
		}
	}
	for _, within := range []int{0, 5, 1000} {
		if e := p.revoke(0, 2, within); e != api.ErrExist {
			t.Fatal(within, e)
		}
	}
}

// TestP16_4RevokeSpace: MaxRevokes of all environments; what was freed makes room.
func TestP16_4RevokeSpace(t *testing.T) {
	p := three(t)
	for frame := range uint8(8) {
		env := frame / 5
		if e := p.revoke(env, frame, 1000); e != api.OK {
			t.Fatal(frame, e)
		}
	}
	if e := p.revoke(2, 8, 0); e != api.ErrSpace {
		t.Error(e)
	}
	if e := p.revoke(0, 0, 0); e != api.ErrExist {
		t.Error("ahead of ErrSpace", e)
	}
	p.must(0, api.FreeCall, 4, 0, 0)
	if e := p.revoke(2, 8, 0); e != api.OK {
		t.Error(e)
	}
}

// TestP16_4RevokeTime: from the time on, as long as revoke takes it.
func TestP16_4RevokeTime(t *testing.T) {
	p := three(t)
	for time, e := range map[int]api.Errno{0: api.OK, 7: api.OK, 1<<30 - 1: api.OK, 1 << 30: api.OK, 1<<30 + 1: api.ErrRange} {
		q := p.fork()
		q.k.time, q.m.time = time, time
		if f := q.revoke(0, 1, 1000); f != e {
			t.Error(time, f)
		}
		if l := q.k.Asked(); e == api.OK && !slices.Equal(l, []api.Asked{{Env: 0, Frame: 1, Until: time + 1000}}) {
			t.Error(time, l)
		}
	}
}

// TestP16_4RevokeUp: it is called up with the frame; if it is in too many upcalls it ends, and nothing is asked back of it.
func TestP16_4RevokeUp(t *testing.T) {
	p := three(t)
	p.must(0, api.EntryCall, api.Word(api.RevokeUp), 40, 0)
	for frame := range uint8(4) {
		if e := p.revoke(0, frame, 10); e != api.OK {
			t.Fatal(frame, e)
		}
		if s := p.k.Regs(0); s.Pc != 40 || s.R[1] != api.Word(frame) || s.R[2] != api.Word(api.RevokeUp) || p.k.Depth(0) != int(frame)+1 {
			t.Fatal(s)
		}
	}
	if e := p.revoke(0, 4, 10); e != api.OK || p.k.Alive(0) || len(p.k.Asked()) != 0 {
		t.Error(e, p.k.Asked())
	}
	if e := p.revoke(1, 5, 10); e != api.OK || !p.k.Alive(1) || p.k.Depth(1) != 0 {
		t.Error("it comes nowhere", e)
	}
}

// TestP16_4RefusedIsNoUpcall: what is refused calls nobody up.
func TestP16_4RefusedIsNoUpcall(t *testing.T) {
	p := three(t)
	p.must(0, api.EntryCall, api.Word(api.RevokeUp), 40, 0)
	p.revoke(0, 9, 1)
	p.revoke(0, 1, -1)
	p.revoke(0, 1, 3)
	p.revoke(0, 1, 3)
	if p.k.Depth(0) != 1 {
		t.Error(p.k.Depth(0))
	}
}

func TestP16_4TickTime(t *testing.T) {
	p := newPair(t, 1, 1, 1)
	for want := 1; want < 50; want++ {
		if l := p.tick(); len(l) != 0 || p.k.Time() != want {
			t.Error(l, p.k.Time())
		}
	}
}

// TestP16_4Tick: just ahead of the tick it is had, at it not; it is out of mappings, of what is at hand, of requests, and 0; the vector has it.
func TestP16_4Tick(t *testing.T) {
	for _, within := range []int{0, 1, 2, 5} {
		p := disk(t)
		p.must(0, api.GiveCall, 0, 1, 0)
		p.must(1, api.MapCall, 9, 2, 1)
		for core := range 2 {
			p.load(core, 0, 64, true)
			p.load(core, 1, 9*32, true)
		}
		p.must(0, api.ReadCall, 0, 2, 0)
		p.must(1, api.WriteCall, 1, 2, 0)
		p.must(1, api.WriteCall, 1, 1, 0)
		p.revoke(0, 2, within)
		for range within - 1 {
			if l := p.tick(); len(l) != 0 || len(p.k.Frames(0)) != 3 || len(p.k.Asked()) != 1 {
				t.Fatal(within, l)
			}
		}
		if l := p.tick(); !slices.Equal(l, []api.Asked{{Env: 0, Frame: 2, Until: within}}) {
			t.Error(within, l)
		}
		last := p.k.Events()[len(p.k.Events())-1]
		if last != (api.Event{Kind: api.Repossessed, Env: 0, Frame: 2}) || !slices.Equal(p.k.Lost(0), []uint8{2}) || len(p.k.Asked()) != 0 {
			t.Error(within, last, p.k.Lost(0))
		}
		b, _ := p.k.Frame(2)
		if slices.Max(b) != 0 || len(p.k.Maps(0)) != 2 || len(p.k.Maps(1)) != 2 || len(p.k.Tlb(0))+len(p.k.Tlb(1)) != 0 || len(p.k.Waiting()) != 1 {
			t.Error(within, b, p.k.Maps(0), p.k.Maps(1), p.k.Tlb(0), p.k.Tlb(1), p.k.Waiting())
		}
		if l := p.tick(); len(l) != 0 {
			t.Error("again", l)
		}
	}
}

// TestP16_4TickLeast: with MinFrames nothing is taken, with one more one; two at one tick count each other; it is not asked back any more.
func TestP16_4TickLeast(t *testing.T) {
	p := three(t)
	for _, frame := range []uint8{8, 9} {
		p.revoke(2, frame, 1)
	}
	for _, frame := range []uint8{7, 5} {
		p.revoke(1, frame, 1)
	}
	if l := p.tick(); !slices.Equal(l, []api.Asked{{Env: 1, Frame: 7, Until: 1}}) {
		t.Error(l)
	}
	if !slices.Equal(p.k.Frames(1), []uint8{5, 6}) || !slices.Equal(p.k.Frames(2), []uint8{8, 9}) || len(p.k.Asked()) != 0 {
		t.Error(p.k.Frames(1), p.k.Frames(2), p.k.Asked())
	}
	if len(p.k.Lost(2)) != 0 || !slices.Equal(p.k.Lost(1), []uint8{7}) {
		t.Error(p.k.Lost(2), p.k.Lost(1))
	}
}

// TestP16_4TickMany: of several environments at one tick, as they were asked; those whose time comes later stay.
func TestP16_4TickMany(t *testing.T) {
	p := three(t)
	for _, a := range []api.Asked{{Env: 0, Frame: 4, Until: 2}, {Env: 1, Frame: 5, Until: 1}, {Env: 0, Frame: 0, Until: 1}, {Env: 0, Frame: 2, Until: 2}, {Env: 0, Frame: 3, Until: 2}, {Env: 1, Frame: 6, Until: 3}, {Env: 2, Frame: 8, Until: 0}} {
		p.revoke(a.Env, a.Frame, a.Until)
	}
	if l := p.tick(); !slices.Equal(l, []api.Asked{{Env: 1, Frame: 5, Until: 1}, {Env: 0, Frame: 0, Until: 1}}) {
		t.Error(l)
	}
	if l := p.tick(); !slices.Equal(l, []api.Asked{{Env: 0, Frame: 4, Until: 2}, {Env: 0, Frame: 2, Until: 2}}) {
		t.Error(l)
	}
	if !slices.Equal(p.k.Lost(0), []uint8{0, 4, 2}) || !slices.Equal(p.k.Frames(0), []uint8{1, 3}) {
		t.Error(p.k.Lost(0), p.k.Frames(0))
	}
	p.must(1, api.AllocCall, 5, 0, 0)
	if l := p.tick(); !slices.Equal(l, []api.Asked{{Env: 1, Frame: 6, Until: 3}}) {
		t.Error("it has enough again", l)
	}
}

// TestP16_4TickFreed: what was freed until then is not asked back any more, also if it is had again.
func TestP16_4TickFreed(t *testing.T) {
	p := three(t)
	p.revoke(0, 3, 2)
	p.revoke(0, 4, 2)
	p.must(0, api.FreeCall, 3, 0, 0)
	p.must(0, api.FreeCall, 4, 0, 0)
	p.must(0, api.AllocCall, 4, 0, 0)
	p.tick()
	if l := p.tick(); len(l) != 0 || len(p.k.Lost(0)) != 0 || len(p.k.Frames(0)) != 4 {
		t.Error(l, p.k.Lost(0), p.k.Frames(0))
	}
}

// TestP16_4TickHasNot: what an environment has not is not asked back any more, though the book has it.
func TestP16_4TickHasNot(t *testing.T) {
	p := three(t)
	for _, a := range []api.Asked{{Env: 0, Frame: 11, Until: 1}, {Env: 0, Frame: 6, Until: 1}} {
		p.k.book.Ask(a.Env, a.Frame, 0, a.Until)
		p.m.open = append(p.m.open, a)
	}
	p.revoke(0, 0, 1)
	p.revoke(0, 1, 1)
	p.revoke(0, 2, 1)
	if l := p.tick(); len(l) != 3 || len(p.k.Asked()) != 0 {
		t.Error(l, p.k.Asked())
	}
}

// TestP16_4TickOneOfTwo: a frame that another one has, too, keeps its bytes, and what leads that one to it.
func TestP16_4TickOneOfTwo(t *testing.T) {
	p := three(t)
	p.must(0, api.GiveCall, 0, 1, 0)
	p.share(0, 1, 2)
	p.must(1, api.MapCall, 9, 2, 1)
	p.load(0, 1, 9*32, false)
	p.load(0, 0, 2*32, false)
	p.revoke(0, 2, 0)
	p.revoke(1, 2, 9)
	was, _ := p.k.Frame(2)
	if l := p.tick(); len(l) != 1 || len(p.k.Asked()) != 1 || len(p.k.Tlb(0)) != 1 || len(p.k.Maps(1)) != 4 {
		t.Error(l, p.k.Asked(), p.k.Tlb(0))
	}
	if b, _ := p.k.Frame(2); !bytes.Equal(b, was) || slices.Max(b) == 0 {
		t.Error(b)
	}
}

// TestP16_8AtTheTick: what is asked back until a tick is not had by then, whatever its environment does, but for the least frames.
func TestP16_8AtTheTick(t *testing.T) {
	p := three(t)
	for frame := range uint8(5) {
		p.revoke(0, frame, int(frame))
	}
	for range 6 {
		for frame := range api.Word(5) {
			p.call(0, api.MapCall, 8+frame, frame, 1)
			p.store(0, 0, (8+frame)*32, 7, false)
		}
		p.tick()
		for frame := range uint8(5) {
			if int(frame) <= p.k.Time() && slices.Contains(p.k.Frames(0), frame) && len(p.k.Frames(0)) > 2 {
				t.Error(p.k.Time(), frame)
			}
		}
	}
	if !slices.Equal(p.k.Frames(0), []uint8{3, 4}) {
		t.Error(p.k.Frames(0))
	}
}

func TestP16_4DeliverRange(t *testing.T) {
	p := disk(t)
	for _, i := range append(outside(), 0, 1) {
		if r, e := p.deliver(i); r != (api.Request{}) || e != api.ErrRange {
			t.Fatal(i, r, e)
		}
	}
	p.must(0, api.ReadCall, 0, 0, 0)
	p.must(0, api.ReadCall, 1, 1, 0)
	for _, i := range append(outside(), 2, 3) {
		if r, e := p.deliver(i); r != (api.Request{}) || e != api.ErrRange {
			t.Fatal(i, r, e)
		}
	}
	if len(p.k.Waiting()) != 2 {
		t.Error(p.k.Waiting())
	}
}

// TestP16_4Deliver: the bytes go from the sector to the frame, or back; it is noted, and its owner is called up with its number.
func TestP16_4Deliver(t *testing.T) {
	p := disk(t)
	p.must(0, api.EntryCall, api.Word(api.DiskUp), 12, 0)
	p.must(0, api.ReadCall, 1, 2, 0)
	p.must(0, api.WriteCall, 2, 0, 0)
	p.must(1, api.WriteCall, 5, 3, 0)
	code, _ := p.k.Frame(0)
	if r, e := p.deliver(1); r != (api.Request{Id: 2, Write: true, Sector: 2, Frame: 0}) || e != api.OK {
		t.Error(r, e)
	}
	if b, _ := p.k.Sector(2); !bytes.Equal(b, code) {
		t.Error(b)
	}
	if s := p.k.Regs(0); s.Pc != 12 || s.R[1] != 2 || s.R[2] != api.Word(api.DiskUp) {
		t.Error(s)
	}
	if r, e := p.deliver(0); r != (api.Request{Id: 1, Sector: 1, Frame: 2}) || e != api.OK {
		t.Error(r, e)
	}
	if b, _ := p.k.Frame(2); !bytes.Equal(b, bytes.Repeat([]byte{101}, 32)) {
		t.Error(b)
	}
	if r, e := p.deliver(0); r.Id != 3 || r.Owner != 1 || e != api.OK || !p.k.Alive(1) || p.k.Depth(1) != 0 {
		t.Error("it comes nowhere", r, e)
	}
	want := []api.Noted{{Env: 0, Frame: 0, Right: api.Read}, {Env: 0, Frame: 2, Right: api.Write}, {Env: 1, Frame: 3, Right: api.Read}}
	if !slices.Equal(p.k.Log(), want) || p.k.Depth(0) != 2 {
		t.Error(p.k.Log(), p.k.Depth(0))
	}
}

// TestP16_4DeliverEnds: in too many upcalls its owner ends behind it; the request was done.
func TestP16_4DeliverEnds(t *testing.T) {
	p := disk(t)
	p.must(0, api.EntryCall, api.Word(api.DiskUp), 12, 0)
	for range 6 {
		p.must(0, api.WriteCall, 0, 1, 0)
	}
	for range 4 {
		p.deliver(0)
	}
	if r, e := p.deliver(1); r.Id != 6 || e != api.OK || p.k.Alive(0) || len(p.k.Waiting()) != 0 || len(p.k.Log()) != 5 {
		t.Error(r, e, p.k.Waiting(), p.k.Log())
	}
	if b, _ := p.k.Sector(0); b[0] != 33 {
		t.Error(b)
	}
}

// TestP16_4DeliverPerm: who may not any more, by the sector or by the frame, gets nothing: the request is out, nothing is noted, nobody is called up, and no byte is changed.
func TestP16_4DeliverPerm(t *testing.T) {
	for _, kind := range []api.CallKind{api.ReadCall, api.WriteCall} {
		for k, change := range []func(*pair){
			func(p *pair) { p.must(1, api.DropCall, 1, 0, 0) },
			func(p *pair) { p.must(1, api.DropCall, 1, 0, 0); p.must(1, api.DropCall, 0, 0, 0) },
			func(p *pair) { p.must(1, api.RestrictCall, 1, 4, 31-3); p.must(1, api.DropCall, 1, 0, 0) },
		} {
			for _, ask := range [][2]api.Word{{0, 3}, {5, 0}, {1, 1}} {
				p := disk(t)
				p.must(1, api.EntryCall, api.Word(api.DiskUp), 12, 0)
				p.must(0, api.GiveCall, 0, 1, 0)
				p.must(1, kind, ask[0], ask[1], 0)
				p.must(0, kind, 0, 0, 0)
				change(p)
				if r, e := p.deliver(0); r != (api.Request{}) || e != api.ErrPerm {
					t.Error(kind, k, ask, r, e)
				}
				if len(p.k.Waiting()) != 1 || len(p.k.Log()) != 0 || p.k.Depth(1) != 0 || !p.k.Alive(1) {
					t.Error(kind, k, ask, p.k.Waiting(), p.k.Log())
				}
				if id := p.must(0, kind, 0, 0, 0); id != 3 {
					t.Error("numbers go on", id)
				}
			}
		}
	}
}

// TestP16_4DeliverRights: as they are now: with Read alone of the sector's owner, and then with Write alone.
func TestP16_4DeliverRights(t *testing.T) {
	for rights := range api.Word(32) {
		for _, kind := range []api.CallKind{api.ReadCall, api.WriteCall} {
			for _, ask := range [][2]api.Word{{0, 3}, {5, 0}} {
				p := disk(t)
				p.must(0, api.GiveCall, 0, 1, 0)
				p.must(1, kind, ask[0], ask[1], 0)
				p.must(1, api.RestrictCall, 1, 2, rights)
				p.must(1, api.DropCall, 1, 0, 0)
				need := api.Word(api.Read)
				if (kind == api.ReadCall) != (ask[0] == 0) {
					need = api.Write
				}
				if _, e := p.deliver(0); (e == api.OK) != (rights&need != 0) {
					t.Error(rights, kind, ask, e)
				}
			}
		}
	}
}

// TestP16_4DeliverNoExtent: the extent's owner ended, and nobody has the sector, or another one has it.
func TestP16_4DeliverNoExtent(t *testing.T) {
	for _, again := range []bool{false, true} {
		p := disk(t)
		p.spawn(nil, 1)
		p.must(0, api.GiveCall, 0, 1, 0)
		p.must(1, api.WriteCall, 0, 3, 0)
		p.must(1, api.ReadCall, 1, 4, 0)
		p.exit(0)
		if again {
			p.extent(2, 0, 3)
		}
		for range 2 {
			if r, e := p.deliver(0); r != (api.Request{}) || e != api.ErrPerm {
				t.Error(again, r, e)
			}
		}
		if b, _ := p.k.Sector(0); b[0] != 100 {
			t.Error(b)
		}
		if again {
			continue
		}
		p.must(1, api.WriteCall, 5, 3, 0)
		p.extent(1, 0, 3)
		if _, e := p.deliver(0); e != api.OK {
			t.Error(e)
		}
	}
}

// TestP16_4DeliverNotAlive: a request whose owner does not live, though no call leaves one.
func TestP16_4DeliverNotAlive(t *testing.T) {
	for _, write := range []bool{false, true} {
		for _, owner := range []uint8{1, 3, 5, 255} {
			p := disk(t)
			p.exit(1)
			r := api.Request{Id: 1, Write: write, Sector: 0, Frame: 0, Owner: owner}
			p.k.disk.Ask(r)
			p.m.queue, p.m.last = []api.Request{r}, 1
			if r, e := p.deliver(0); r != (api.Request{}) || e != api.ErrPerm || len(p.k.Waiting()) != 0 {
				t.Error(write, owner, r, e)
			}
		}
	}
}
