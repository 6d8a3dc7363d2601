package kernel

import (
	"bytes"
	"slices"
	"testing"

	"embrasure/api"
)

// words are some at the edges of what calls take.
func words() []api.Word {
	return []api.Word{0, 1, 3, 4, 5, 7, 8, 11, 12, 15, 16, 255, 256, 0xffff}
}

// TestP16_2KindsAndEnvs: what does not live comes ahead of what is no kind.
func TestP16_2KindsAndEnvs(t *testing.T) {
	p := crowd(t)
	for kind := range 256 {
		for _, env := range dead() {
			p.refused(api.ErrNoent, env, api.CallKind(kind), 0, 0, 0)
		}
		if kind == 0 || kind >= int(api.Calls) {
			p.refused(api.ErrRange, 0, api.CallKind(kind), 0, 0, 0)
			p.refused(api.ErrRange, 2, api.CallKind(kind), 0xffff, 0xffff, 0xffff)
		}
	}
}

// TestP16_2AnyWords: each kind, with each word at an edge, comes to what it comes to in the model.
func TestP16_2AnyWords(t *testing.T) {
	for kind := range api.Calls + 1 {
		p := both(t)
		p.extent(0, 0, 4)
		p.must(0, api.GiveCall, 0, 1, 0)
		for _, x := range words() {
			for _, y := range words() {
				for _, z := range []api.Word{0, 31, 32, 256} {
					q := p
					if kind == api.ExitCall || kind == api.DropCall {
						q = p.fork()
					}
					q.call(1, kind, x, y, z)
				}
			}
		}
	}
}

func TestP16_2Alloc(t *testing.T) {
	p := both(t)
	p.must(0, api.GiveCall, 0, 1, 0)
	for _, frame := range []api.Word{8, 9, 63, 64, 255, 256, 261, 0xffff} {
		p.refused(api.ErrRange, 1, api.AllocCall, frame, 99, 0)
		p.refused(api.ErrRange, 1, api.AllocCall, frame, 0, 0)
	}
	for _, slot := range []api.Word{12, 13, 255, 256, 0xffff} {
		p.refused(api.ErrRange, 1, api.AllocCall, 0, slot, 0)
		p.refused(api.ErrRange, 1, api.AllocCall, 5, slot, 0)
	}
	for _, slot := range []api.Word{2, 11} {
		p.refused(api.ErrNoent, 1, api.AllocCall, 0, slot, 0)
		p.refused(api.ErrNoent, 1, api.AllocCall, 5, slot, 0)
	}
	p.quota(1, 2)
	for _, frame := range []api.Word{0, 2, 3, 4} {
		p.refused(api.ErrExist, 1, api.AllocCall, frame, 0, 0)
	}
	p.refused(api.ErrQuota, 1, api.AllocCall, 5, 0, 0)
	p.quota(1, 4)
	for frame, slot := range map[api.Word]api.Word{7: 0, 5: 1} {
		if v := p.must(1, api.AllocCall, frame, slot, 0); v != 0 {
			t.Error(v)
		}
		guard, ok := p.k.Guard(uint8(frame))
		if want := []string{"/e1", "/e0"}[slot]; guard != (api.Cap{Name: want}) || !ok {
			t.Error(frame, guard, ok)
		}
		p.refused(api.ErrExist, 1, api.AllocCall, frame, 0, 0)
	}
	if !slices.Equal(p.k.Frames(1), []uint8{3, 4, 5, 7}) || len(p.k.Maps(1)) != 2 {
		t.Error(p.k.Frames(1), p.k.Maps(1))
	}
}

// TestP16_2AllocWithoutRights: a capability guards whatever its rights are.
func TestP16_2AllocWithoutRights(t *testing.T) {
	p := both(t)
	p.must(0, api.RestrictCall, 0, 4, 0)
	p.must(0, api.AllocCall, 6, 4, 0)
	p.must(0, api.MapCall, 9, 6, 1)
}

// TestP16_2Free: the frame of the last one that has it: its mappings are out, those of others too, at hand and not; so are its requests, of whomever; it is 0.
func TestP16_2Free(t *testing.T) {
	p := both(t)
	p.extent(0, 0, 4)
	p.must(0, api.GiveCall, 0, 1, 0)
	p.must(1, api.MapCall, 9, 1, 1)
	p.must(0, api.MapCall, 12, 1, 0)
	for core := range 2 {
		p.load(core, 0, 33, false)
		p.load(core, 0, 0, false)
		p.load(core, 0, 12*32, false)
		p.load(core, 1, 9*32, false)
	}
	for _, step := range [][3]api.Word{{0, 1, 0}, {1, 0, 1}, {0, 2, 1}, {1, 1, 2}} {
		p.must(uint8(step[0]), api.ReadCall, step[2], step[1], 0)
	}
	p.revoke(0, 1, 9)
	p.revoke(0, 0, 9)
	for _, frame := range []api.Word{8, 63, 64, 255, 256, 257, 0xffff} {
		p.refused(api.ErrRange, 0, api.FreeCall, frame, 0, 0)
	}
	for _, frame := range []api.Word{3, 4, 5, 7} {
		p.refused(api.ErrPerm, 0, api.FreeCall, frame, 0, 0)
	}
	p.refused(api.ErrPerm, 1, api.FreeCall, 1, 0, 0)
	p.must(0, api.FreeCall, 1, 0, 0)
	if b, _ := p.k.Frame(1); !bytes.Equal(b, make([]byte, 32)) {
		t.Error(b)
	}
	want := []api.Request{{Id: 2, Sector: 1, Frame: 0, Owner: 1}, {Id: 3, Sector: 1, Frame: 2, Owner: 0}}
	if !slices.Equal(p.k.Waiting(), want) || len(p.k.Maps(0)) != 2 || len(p.k.Maps(1)) != 2 || len(p.k.Tlb(0)) != 1 || len(p.k.Tlb(1)) != 1 {
		t.Error(p.k.Waiting(), p.k.Maps(0), p.k.Maps(1), p.k.Tlb(0), p.k.Tlb(1))
	}
	if !slices.Equal(p.k.Asked(), []api.Asked{{Env: 0, Frame: 0, Until: 9}}) {
		t.Error(p.k.Asked())
	}
	p.refused(api.ErrPerm, 0, api.FreeCall, 1, 0, 0)
	if _, e := p.load(0, 0, 33, false); e != api.ErrFault {
		t.Error(e)
	}
}

// TestP16_2FreeOneOfTwo: what the other one has stays, its mappings and requests too, and the bytes.
func TestP16_2FreeOneOfTwo(t *testing.T) {
	p := both(t)
	p.extent(0, 0, 4)
	p.must(0, api.GiveCall, 0, 1, 0)
	p.share(0, 1, 1)
	p.must(1, api.MapCall, 9, 1, 1)
	for core := range 2 {
		p.load(core, 0, 33, false)
		p.load(core, 1, 9*32, false)
	}
	p.must(0, api.ReadCall, 0, 1, 0)
	p.must(1, api.WriteCall, 1, 1, 0)
	p.revoke(0, 1, 9)
	p.revoke(1, 1, 9)
	was, _ := p.k.Frame(1)
	p.must(0, api.FreeCall, 1, 0, 0)
	if b, _ := p.k.Frame(1); !bytes.Equal(b, was) || b[0] == 0 {
		t.Error(b)
	}
	if len(p.k.Waiting()) != 2 || len(p.k.Maps(0)) != 2 || len(p.k.Maps(1)) != 3 || len(p.k.Tlb(0)) != 1 || len(p.k.Tlb(1)) != 1 {
		t.Error(p.k.Waiting(), p.k.Maps(0), p.k.Maps(1), p.k.Tlb(0), p.k.Tlb(1))
	}
	if !slices.Equal(p.k.Asked(), []api.Asked{{Env: 1, Frame: 1, Until: 9}}) {
		t.Error(p.k.Asked())
	}
	// Its capability opens the guard still, so that it may map it again.
	p.must(0, api.MapCall, 3, 1, 1)
	p.must(1, api.FreeCall, 1, 0, 0)
	if b, _ := p.k.Frame(1); !bytes.Equal(b, make([]byte, 32)) || len(p.k.Waiting()) != 0 || len(p.k.Maps(0)) != 2 {
		t.Error(b, p.k.Waiting(), p.k.Maps(0))
	}
}

func TestP16_2Map(t *testing.T) {
	p := both(t)
	for _, x := range []api.Word{16, 17, 255, 256, 0xffff} {
		p.refused(api.ErrRange, 0, api.MapCall, x, 0, 0)
		p.refused(api.ErrRange, 0, api.MapCall, x, 5, 0)
	}
	for _, y := range []api.Word{8, 63, 64, 255, 256, 0xffff} {
		p.refused(api.ErrRange, 0, api.MapCall, 0, y, 0)
	}
	for _, y := range []api.Word{5, 6, 7} {
		p.refused(api.ErrNoent, 0, api.MapCall, 0, y, 0)
		p.refused(api.ErrNoent, 0, api.MapCall, 15, y, 1)
	}
	for _, z := range []api.Word{0, 1, 256, 0xffff} {
		p.refused(api.ErrPerm, 1, api.MapCall, 5, 0, z)
		p.must(0, api.MapCall, 15, 1, z)
		if m := p.k.Maps(0)[3]; m != (api.Mapping{Asid: 0, Page: 15, Frame: 1, Write: z != 0}) {
			t.Error(z, m)
		}
	}
}

// TestP16_2MapRights: with Read alone it may be read; with Write alone not even that; with both in two capabilities it may be written.
func TestP16_2MapRights(t *testing.T) {
	for rights := range api.Word(32) {
		p := both(t)
		p.must(0, api.RestrictCall, 0, 1, rights|api.Grant)
		p.must(0, api.GiveCall, 1, 1, 0)
		reads, writes := rights&api.Read != 0, rights&api.Read != 0 && rights&api.Write != 0
		if _, e := p.call(1, api.MapCall, 5, 0, 0); (e == api.OK) != reads {
			t.Error(rights, e)
		}
		if _, e := p.call(1, api.MapCall, 6, 0, 1); (e == api.OK) != writes {
			t.Error(rights, e)
		}
	}
	p := both(t)
	for slot, rights := range map[api.Word]api.Word{1: api.Read | api.Grant, 2: api.Write | api.Grant} {
		p.must(0, api.RestrictCall, 0, slot, rights)
	}
	p.must(0, api.GiveCall, 2, 1, 0)
	p.refused(api.ErrPerm, 1, api.MapCall, 6, 0, 1)
	p.must(0, api.GiveCall, 1, 1, 0)
	p.must(1, api.MapCall, 6, 0, 1)
	if e := p.store(0, 1, 6*32+3, 77, false); e != api.OK {
		t.Error(e)
	}
}

// TestP16_2MapAbove: a capability above the guard's name opens it, one below does not.
func TestP16_2MapAbove(t *testing.T) {
	for name, e := range map[string]api.Errno{"/": api.OK, "/e0": api.OK, "/e0/a": api.ErrPerm, "/e": api.ErrPerm, "/e00": api.ErrPerm, "/e1": api.ErrPerm} {
		p := both(t)
		p.put(1, 4, api.Cap{Name: name, Rights: api.Read})
		if _, f := p.call(1, api.MapCall, 5, 0, 0); f != e {
			t.Error(name, f)
		}
	}
}

// TestP16_2MapAtHand: what was at hand of the page, on each core, is out, and of no other page, nor of the same page of another environment.
func TestP16_2MapAtHand(t *testing.T) {
	p := both(t)
	for core := range 2 {
		for _, addr := range []api.Word{0, 32, 64} {
			p.load(core, 0, addr, false)
		}
		p.load(core, 1, 32, false)
	}
	p.must(0, api.MapCall, 1, 2, 0)
	for core := range 2 {
		want := []api.Mapping{{Page: 0, Frame: 0, Write: true}, {Page: 2, Frame: 2, Write: true}, {Asid: 1, Page: 1, Frame: 4, Write: true}}
		if !slices.Equal(p.k.Tlb(core), want) {
			t.Error(core, p.k.Tlb(core))
		}
	}
	if v, e := p.load(0, 0, 32, false); v != 65 || e != api.OK {
		t.Error("it leads to frame 2", v, e)
	}
	if e := p.store(0, 0, 32, 1, false); e != api.ErrFault {
		t.Error("it may be read alone", e)
	}
	p.must(0, api.MapCall, 1, 2, 1)
	if e := p.store(0, 0, 32, 1, false); e != api.OK {
		t.Error("it may be written", e)
	}
}

func TestP16_2Unmap(t *testing.T) {
	p := both(t)
	for _, x := range []api.Word{16, 17, 255, 256, 257, 0xffff} {
		p.refused(api.ErrRange, 0, api.UnmapCall, x, 0, 0)
	}
	for _, x := range []api.Word{3, 4, 15} {
		p.refused(api.ErrNoent, 0, api.UnmapCall, x, 0, 0)
	}
	for core := range 2 {
		p.load(core, 0, 40, true)
		p.load(core, 0, 70, true)
		p.load(core, 1, 40, true)
	}
	p.must(0, api.UnmapCall, 1, 0, 0)
	for core := range 2 {
		if len(p.k.Tlb(core)) != 2 {
			t.Error(core, p.k.Tlb(core))
		}
		if _, e := p.load(core, 0, 40, true); e != api.ErrFault {
			t.Error(core, e)
		}
		if e := p.store(core, 0, 40, 1, true); e != api.ErrFault {
			t.Error(core, e)
		}
	}
	p.refused(api.ErrNoent, 0, api.UnmapCall, 1, 0, 0)
	if len(p.k.Frames(0)) != 3 {
		t.Error("it has the frame still", p.k.Frames(0))
	}
	p.must(0, api.MapCall, 1, 1, 0)
}

func TestP16_2Give(t *testing.T) {
	p := crowd(t)
	p.must(0, api.RestrictCall, 0, 3, api.Read|api.Write)
	for _, slot := range []api.Word{12, 13, 255, 256, 0xffff} {
		p.refused(api.ErrRange, 0, api.GiveCall, slot, 9, 0)
	}
	for _, slot := range []api.Word{1, 2, 11} {
		p.refused(api.ErrNoent, 0, api.GiveCall, slot, 2, 0)
	}
	for _, to := range []api.Word{0, 1, 2, 9, 0xffff} {
		p.refused(api.ErrPerm, 0, api.GiveCall, 3, to, 0)
	}
	for _, to := range []api.Word{1, 3, 5, 6, 255, 256, 258, 0xffff} {
		p.refused(api.ErrNoent, 0, api.GiveCall, 0, to, 0)
	}
	for want := range api.Word(11) {
		if slot := p.must(0, api.GiveCall, 0, 2, 0); slot != want+1 {
			t.Fatal(slot, "not", want+1)
		}
	}
	p.refused(api.ErrSpace, 0, api.GiveCall, 0, 2, 0)
	p.must(2, api.DropCall, 4, 0, 0)
	if slot := p.must(0, api.GiveCall, 0, 2, 0); slot != 4 {
		t.Error(slot)
	}
	if c, e := p.k.Cap(2, 4); c != (api.Cap{Name: "/e0", Rights: api.AllRights}) || e != api.OK {
		t.Error(c, e)
	}
	if slot := p.must(0, api.GiveCall, 0, 0, 0); slot != 1 {
		t.Error("to itself", slot)
	}
}

// TestP16_2GiveRights: what is given has the rights that it had, and Grant is what is needed, alone or among others.
func TestP16_2GiveRights(t *testing.T) {
	for rights := range api.Word(32) {
		p := both(t)
		p.must(0, api.RestrictCall, 0, 1, rights)
		_, e := p.call(0, api.GiveCall, 1, 1, 0)
		if (e == api.OK) != (rights&api.Grant != 0) || e != api.OK && e != api.ErrPerm {
			t.Error(rights, e)
		}
		if c, f := p.k.Cap(1, 1); e == api.OK && (c != (api.Cap{Name: "/e0", Rights: uint8(rights)}) || f != api.OK) {
			t.Error(rights, c, f)
		}
	}
}

func TestP16_2Restrict(t *testing.T) {
	p := both(t)
	for _, z := range []api.Word{32, 33, 255, 256, 257, 0xffff} {
		p.refused(api.ErrRange, 0, api.RestrictCall, 0, 5, z)
		p.refused(api.ErrRange, 0, api.RestrictCall, 7, 5, z)
	}
	for _, slot := range []api.Word{12, 255, 256, 0xffff} {
		p.refused(api.ErrRange, 0, api.RestrictCall, slot, 5, 1)
		p.refused(api.ErrRange, 0, api.RestrictCall, 0, slot, 1)
		p.refused(api.ErrNoent, 0, api.RestrictCall, 7, slot, 1)
	}
	p.refused(api.ErrNoent, 0, api.RestrictCall, 7, 0, 1)
	p.refused(api.ErrExist, 0, api.RestrictCall, 0, 0, 1)
	p.load(0, 0, 0, false)
	maps, hand := len(p.k.Maps(0)), len(p.k.Tlb(0))
	for slot, rights := range map[api.Word]api.Word{5: 0, 6: 3, 7: 31} {
		p.must(0, api.RestrictCall, 0, slot, rights)
		if c, e := p.k.Cap(0, int(slot)); c != (api.Cap{Name: "/e0", Rights: uint8(rights)}) || e != api.OK {
			t.Error(slot, c, e)
		}
		p.refused(api.ErrExist, 0, api.RestrictCall, 0, slot, rights)
	}
	p.must(0, api.RestrictCall, 6, 8, 2|8)
	if c, _ := p.k.Cap(0, 8); c.Rights != 2 {
		t.Error("rights that were not there", c)
	}
	if len(p.k.Maps(0)) != maps || len(p.k.Tlb(0)) != hand {
		t.Error("nothing is out", p.k.Maps(0), p.k.Tlb(0))
	}
}

func TestP16_2DropErrors(t *testing.T) {
	p := both(t)
	for _, slot := range []api.Word{12, 255, 256, 0xffff} {
		p.refused(api.ErrRange, 0, api.DropCall, slot, 0, 0)
	}
	for _, slot := range []api.Word{1, 11} {
		p.refused(api.ErrNoent, 0, api.DropCall, slot, 0, 0)
	}
	p.must(0, api.DropCall, 0, 0, 0)
	p.refused(api.ErrNoent, 0, api.DropCall, 0, 0, 0)
}

// TestP16_6Drop: the mappings, at hand too, that its capabilities do not open any more are out: what may be written also where Write alone is gone; what others have stays.
func TestP16_6Drop(t *testing.T) {
	p := both(t)
	p.must(0, api.GiveCall, 0, 1, 0)
	p.must(0, api.RestrictCall, 0, 1, api.Read|api.Grant)
	p.must(0, api.GiveCall, 1, 1, 0)
	p.must(1, api.MapCall, 5, 0, 0)
	p.must(1, api.MapCall, 6, 1, 1)
	for core := range 2 {
		for _, addr := range []api.Word{0, 32, 5 * 32, 6 * 32} {
			if _, e := p.load(core, 1, addr, false); e != api.OK {
				t.Fatal(addr, e)
			}
		}
		p.load(core, 0, 0, false)
	}
	drop := func(slot api.Word, maps, hand int) {
		t.Helper()
		p.must(1, api.DropCall, slot, 0, 0)
		if len(p.k.Maps(1)) != maps || len(p.k.Tlb(0)) != hand || len(p.k.Tlb(1)) != hand || len(p.k.Maps(0)) != 3 {
			t.Error(slot, p.k.Maps(1), p.k.Tlb(0), p.k.Tlb(1), p.k.Maps(0))
		}
	}
	drop(1, 3, 4)
	drop(2, 2, 3)
	drop(0, 0, 1)
	if !slices.Equal(p.k.Frames(1), []uint8{3, 4}) {
		t.Error("it has its frames still", p.k.Frames(1))
	}
	if _, e := p.load(0, 1, 0, false); e != api.ErrFault {
		t.Error(e)
	}
}

// TestP16_6DropOneOfTwo: as long as another capability opens the guard, nothing is out.
func TestP16_6DropOneOfTwo(t *testing.T) {
	p := both(t)
	p.must(0, api.RestrictCall, 0, 5, api.Read|api.Write)
	p.load(1, 0, 64, true)
	p.must(0, api.DropCall, 0, 0, 0)
	if len(p.k.Maps(0)) != 3 || len(p.k.Tlb(1)) != 1 {
		t.Error(p.k.Maps(0), p.k.Tlb(1))
	}
	p.must(0, api.RestrictCall, 5, 6, api.Read)
	p.must(0, api.MapCall, 2, 2, 0)
	p.must(0, api.DropCall, 5, 0, 0)
	if !slices.Equal(p.k.Maps(0), []api.Mapping{{Page: 2, Frame: 2}}) {
		t.Error("the one that may be read alone", p.k.Maps(0))
	}
}

func TestP16_2EntryAndReturn(t *testing.T) {
	p := both(t)
	p.set(0, api.Regs{Pc: 100, R: [8]api.Word{9, 8, 7, 6, 5, 4, 3, 2}})
	for _, x := range []api.Word{5, 6, 255, 256, 258, 0xffff} {
		p.refused(api.ErrRange, 0, api.EntryCall, x, 64, 0)
	}
	p.refused(api.ErrState, 0, api.ReturnCall, 0, 0, 0)
	for kind := range api.Word(5) {
		p.must(0, api.EntryCall, kind, 1000+kind, 0)
	}
	for kind := range api.UpcallKind(4) {
		if !p.upcall(0, kind, 30) || p.k.Regs(0).Pc != 1000+api.Word(kind) {
			t.Error(kind, p.k.Regs(0))
		}
	}
	for depth := 4; depth > 0; depth-- {
		if p.k.Depth(0) != depth {
			t.Error(depth, p.k.Depth(0))
		}
		p.must(0, api.ReturnCall, 0xffff, 0xffff, 0xffff)
	}
	if p.k.Regs(0).Pc != 100 {
		t.Error(p.k.Regs(0))
	}
	p.refused(api.ErrState, 0, api.ReturnCall, 0, 0, 0)
	p.must(0, api.EntryCall, 1, 0xffff, 0)
	p.upcall(0, 1, 0)
	if p.k.Regs(0).Pc != 0xffff {
		t.Error("told again", p.k.Regs(0))
	}
}

// TestP16_2Call: whatever stands against it, neither environment ends.
func TestP16_2Call(t *testing.T) {
	p := crowd(t)
	for _, x := range []api.Word{1, 3, 5, 6, 255, 256, 258, 0xffff} {
		p.refused(api.ErrNoent, 0, api.CallCall, x, 5, 0)
	}
	p.refused(api.ErrState, 0, api.CallCall, 0, 5, 0)
	p.refused(api.ErrNoent, 0, api.CallCall, 2, 5, 0)
	p.must(0, api.EntryCall, api.Word(api.CallUp), 8, 0)
	p.refused(api.ErrState, 0, api.CallCall, 0, 5, 0)
	p.refused(api.ErrNoent, 0, api.CallCall, 2, 5, 0)
	p.must(2, api.EntryCall, api.Word(api.CallUp), 44, 0)
	for depth := range 4 {
		p.must(0, api.CallCall, 2, 500+api.Word(depth), 0)
		if s := p.k.Regs(2); s.Pc != 44 || s.R[1] != 500+api.Word(depth) || s.R[2] != api.Word(api.CallUp) || p.k.Depth(2) != depth+1 || p.k.Depth(0) != 0 {
			t.Error(depth, s)
		}
	}
	p.refused(api.ErrSpace, 0, api.CallCall, 2, 5, 0)
	if !p.k.Alive(0) || !p.k.Alive(2) {
		t.Error("one ended")
	}
	p.must(2, api.ReturnCall, 0, 0, 0)
	p.must(0, api.CallCall, 2, 5, 0)
}

// TestP16_2YieldTimeSelf: they change nothing.
func TestP16_2YieldTimeSelf(t *testing.T) {
	p := both(t)
	for _, env := range []uint8{0, 1} {
		for _, w := range words() {
			if p.must(env, api.YieldCall, w, w, w) != 0 || p.must(env, api.SelfCall, w, w, w) != api.Word(env) || p.must(env, api.TimeCall, w, w, w) != 0 {
				t.Error(env, w)
			}
		}
	}
	for time, want := range map[int]api.Word{1: 1, 65535: 65535, 65536: 0, 65539: 3, 1<<30 + 5: 5} {
		p.k.time, p.m.time = time, time
		if got := p.must(1, api.TimeCall, 0, 0, 0); got != want {
			t.Error(time, got)
		}
	}
}

// disk is both, with sectors 0 to 2 environment 0's and 5 environment 1's, and different bytes in all sectors.
func disk(t *testing.T) *pair {
	t.Helper()
	p := both(t)
	p.extent(0, 0, 3)
	p.extent(1, 5, 1)
	for i := range 8 {
		b := bytes.Repeat([]byte{byte(100 + i)}, 32)
		p.k.disk.Set(i, b)
		copy(p.m.sectors[i][:], b)
	}
	p.told("disk")
	return p
}

func TestP16_2ReadAndWrite(t *testing.T) {
	for _, kind := range []api.CallKind{api.ReadCall, api.WriteCall} {
		p := disk(t)
		for _, n := range []api.Word{8, 63, 64, 255, 256, 257, 0xffff} {
			p.refused(api.ErrRange, 0, kind, n, 0, 0)
			p.refused(api.ErrRange, 0, kind, 0, n, 0)
			p.refused(api.ErrRange, 0, kind, 7, n, 0)
			p.refused(api.ErrRange, 0, kind, n, 7, 0)
		}
		p.refused(api.ErrNoent, 0, kind, 3, 0, 0)
		p.refused(api.ErrNoent, 0, kind, 0, 7, 0)
		p.refused(api.ErrNoent, 0, kind, 5, 7, 0)
		p.refused(api.ErrNoent, 0, kind, 7, 4, 0)
		p.refused(api.ErrPerm, 0, kind, 5, 0, 0)
		p.refused(api.ErrPerm, 0, kind, 0, 4, 0)
		p.refused(api.ErrPerm, 0, kind, 5, 4, 0)
		for n := range 8 {
			if id := p.must(0, kind, api.Word(n%3), api.Word(n%2), 0xffff); int(id) != n+1 {
				t.Fatal(n, id)
			}
			r := p.k.Waiting()[n]
			if r != (api.Request{Id: uint32(n + 1), Write: kind == api.WriteCall, Sector: n % 3, Frame: n % 2, Owner: 0}) {
				t.Fatal(n, r)
			}
		}
		p.refused(api.ErrSpace, 1, kind, 5, 3, 0)
		p.refused(api.ErrPerm, 1, kind, 0, 3, 0)
	}
}

// TestP16_2RequestRights: of ReadCall Read of the sector and Write of the frame, of WriteCall the other way round; each may be opened by another capability.
func TestP16_2RequestRights(t *testing.T) {
	for rights := range api.Word(32) {
		for _, kind := range []api.CallKind{api.ReadCall, api.WriteCall} {
			ofSector, ofFrame := api.Word(api.Read), api.Word(api.Write)
			if kind == api.WriteCall {
				ofSector, ofFrame = api.Write, api.Read
			}
			p := disk(t)
			p.must(0, api.RestrictCall, 0, 1, rights|api.Grant)
			p.must(0, api.GiveCall, 1, 1, 0)
			if _, e := p.call(1, kind, 0, 3, 0); (e == api.OK) != (rights&ofSector != 0) {
				t.Error("the sector", rights, kind, e)
			}
			if _, e := p.call(1, kind, 5, 0, 0); (e == api.OK) != (rights&ofFrame != 0) {
				t.Error("the frame", rights, kind, e)
			}
		}
	}
}

// TestP16_2RequestNumber: modulo 2^16.
func TestP16_2RequestNumber(t *testing.T) {
	p := disk(t)
	for n := 1; n < 65535; n++ {
		id, _ := p.k.disk.Ask(api.Request{})
		if int(id) != n {
			t.Fatal(id)
		}
		p.k.disk.Cancel(0)
	}
	p.m.last = 65534
	p.must(0, api.EntryCall, api.Word(api.DiskUp), 4, 0)
	for _, want := range []api.Word{65535, 0, 1} {
		if got := p.must(0, api.ReadCall, 0, 0, 0); got != want {
			t.Error(got, "not", want)
		}
		if r, e := p.deliver(0); e != api.OK || api.Word(r.Id%65536) != want || p.k.Regs(0).R[1] != want {
			t.Error(r, e, p.k.Regs(0))
		}
	}
}

func TestP16_2Lost(t *testing.T) {
	p := newPair(t, 16, 1, 1)
	p.spawn(nil, 8)
	p.spawn(nil, 3)
	if v := p.must(0, api.LostCall, 0, 0, 0); v != 0xffff {
		t.Error(v)
	}
	for _, frame := range []uint8{5, 2, 7, 0} {
		p.revoke(0, frame, 0)
	}
	p.tick()
	if v := p.must(1, api.LostCall, 0, 0, 0); v != 0xffff {
		t.Error("another one's", v)
	}
	for _, want := range []api.Word{5, 2, 7, 0, 0xffff, 0xffff} {
		if v := p.must(0, api.LostCall, 9, 9, 9); v != want {
			t.Error(v, "not", want)
		}
	}
}

func TestP16_2Exit(t *testing.T) {
	p := both(t)
	if v := p.must(0, api.ExitCall, 1, 1, 1); v != 0 || p.k.Alive(0) || !p.k.Alive(1) || len(p.k.Frames(0)) != 0 {
		t.Error(v)
	}
	p.refused(api.ErrNoent, 0, api.ExitCall, 0, 0, 0)
}
