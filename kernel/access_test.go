package kernel

import (
	"slices"
	"testing"

	"embrasure/api"
)

// TestP16_3Errors: in their order.
func TestP16_3Errors(t *testing.T) {
	p := crowd(t)
	check := func(want api.Errno, core int, env uint8, addr api.Word, wide bool) {
		t.Helper()
		was := p.m.another()
		if v, e := p.load(core, env, addr, wide); v != 0 || e != want {
			t.Fatal("Load", core, env, addr, wide, v, e)
		}
		if e := p.store(core, env, addr, 9, wide); e != want {
			t.Fatal("Store", core, env, addr, wide, e)
		}
		(&pair{t: t, k: p.k, m: was}).told("refused")
	}
	for _, wide := range []bool{false, true} {
		for _, env := range dead() {
			check(api.ErrNoent, 0, env, 0, wide)
			check(api.ErrNoent, -1, env, 0xffff, wide)
			check(api.ErrNoent, 2, env, 31, wide)
		}
		for _, core := range append(outside(), 2, 3) {
			check(api.ErrRange, core, 0, 0, wide)
			check(api.ErrRange, core, 0, 31, wide)
			check(api.ErrRange, core, 0, 300, wide)
		}
		for _, addr := range []api.Word{512, 513, 543, 1024, 0x7fff, 0x8000, 0xffff} {
			check(api.ErrRange, 0, 0, addr, wide)
		}
		for _, addr := range []api.Word{96, 127, 200, 510, 511} {
			check(api.ErrFault, 1, 2, addr, wide)
		}
	}
	for page := range api.Word(16) {
		check(api.ErrFault, 0, 0, page*32+31, true)
	}
}

// TestP16_3LoadAndStore: each address of a page, as a byte and as a word, of which a frame's last byte has none; no other byte is changed.
func TestP16_3LoadAndStore(t *testing.T) {
	p := both(t)
	for addr := range api.Word(96) {
		want := api.Word(0)
		if addr < 70 {
			want = addr + 1
		}
		if v, e := p.load(0, 0, addr, false); v != want || e != api.OK {
			t.Fatal(addr, v, e)
		}
		if e := p.store(int(addr%2), 0, addr, 0xab00+addr, false); e != api.OK {
			t.Fatal(addr, e)
		}
		if v, e := p.load(1, 0, addr, false); v != addr || e != api.OK {
			t.Fatal("the lower byte", addr, v, e)
		}
	}
	for addr := range api.Word(96) {
		v, e := p.load(0, 0, addr, true)
		f := p.store(1, 0, addr, 0x1234, true)
		if addr%32 == 31 {
			if v != 0 || e != api.ErrFault || f != api.ErrFault {
				t.Fatal(addr, v, e, f)
			}
			continue
		}
		high := addr
		if addr%32 > 0 {
			high = 0x34
		}
		if v != high<<8|(addr+1) || e != api.OK || f != api.OK {
			t.Fatal(addr, v, e, f)
		}
		if v, _ := p.load(0, 0, addr, true); v != 0x1234 {
			t.Fatal(addr, v)
		}
	}
}

// TestP16_3Pages: a page may lie in any frame, also two in one, which both see.
func TestP16_3Pages(t *testing.T) {
	p := both(t)
	p.must(0, api.MapCall, 15, 2, 1)
	p.must(0, api.MapCall, 14, 2, 0)
	if e := p.store(0, 0, 15*32+30, 0x0506, true); e != api.OK {
		t.Error(e)
	}
	for _, addr := range []api.Word{14*32 + 31, 2*32 + 31} {
		if v, e := p.load(1, 0, addr, false); v != 6 || e != api.OK {
			t.Error(addr, v, e)
		}
	}
	if e := p.store(0, 0, 14*32, 1, false); e != api.ErrFault {
		t.Error(e)
	}
}

// TestP16_3AtHand: what is got at is at hand then, on that core alone; also if it may not be written; the first one goes for the ninth.
func TestP16_3AtHand(t *testing.T) {
	p := both(t)
	p.must(0, api.MapCall, 3, 0, 0)
	if e := p.store(1, 0, 100, 1, false); e != api.ErrFault {
		t.Error(e)
	}
	want := []api.Mapping{{Page: 3, Frame: 0}}
	if !slices.Equal(p.k.Tlb(1), want) || len(p.k.Tlb(0)) != 0 || len(p.k.Log()) != 0 {
		t.Error(p.k.Tlb(1), p.k.Tlb(0), p.k.Log())
	}
	if v, e := p.load(1, 0, 100, false); v != 5 || e != api.OK || !slices.Equal(p.k.Tlb(1), want) {
		t.Error(v, e, p.k.Tlb(1))
	}
	for page := range api.Word(10) {
		p.must(0, api.MapCall, page, 1, 1)
		p.load(0, 0, page*32, false)
	}
	for at, m := range p.k.Tlb(0) {
		if int(m.Page) != at+2 {
			t.Error(p.k.Tlb(0))
		}
	}
	p.load(0, 0, 2*32, false)
	p.load(0, 1, 0, false)
	if l := p.k.Tlb(0); l[0].Page != 3 || l[7] != (api.Mapping{Asid: 1, Page: 0, Frame: 3, Write: true}) {
		t.Error("what is at hand is not taken in anew", l)
	}
}

// TestP16_3Log: each that is done, with its right, and none that is not.
func TestP16_3Log(t *testing.T) {
	p := both(t)
	p.must(0, api.RestrictCall, 0, 1, api.Read|api.Grant)
	p.must(0, api.GiveCall, 1, 1, 0)
	p.must(1, api.MapCall, 5, 1, 0)
	p.load(0, 0, 0, true)
	p.load(0, 0, 31, true)
	p.store(0, 0, 70, 1, false)
	p.store(1, 1, 160, 1, false)
	p.load(1, 1, 160, false)
	p.load(2, 1, 160, false)
	p.load(0, 0, 400, false)
	p.load(0, 3, 0, false)
	p.store(1, 1, 0, 1, true)
	want := []api.Noted{{Env: 0, Frame: 0, Right: api.Read}, {Env: 0, Frame: 2, Right: api.Write}, {Env: 1, Frame: 1, Right: api.Read}, {Env: 1, Frame: 3, Right: api.Write}}
	if !slices.Equal(p.k.Log(), want) {
		t.Error(p.k.Log())
	}
}

// TestE2NotOpenedAnyMore: what was at hand is got at no more, when the capability is gone, the frame freed, taken, or its environment ended.
func TestE2NotOpenedAnyMore(t *testing.T) {
	for k, change := range []func(*pair){
		func(p *pair) { p.must(1, api.DropCall, 1, 0, 0) },
		func(p *pair) { p.must(1, api.UnmapCall, 9, 0, 0) },
		func(p *pair) { p.must(0, api.FreeCall, 1, 0, 0) },
		func(p *pair) { p.must(0, api.ExitCall, 0, 0, 0) },
		func(p *pair) { p.exit(0) },
		func(p *pair) { p.revoke(0, 1, 0); p.tick() },
		func(p *pair) { p.must(0, api.FreeCall, 1, 0, 0); p.must(0, api.AllocCall, 1, 0, 0) },
		func(p *pair) { p.upcall(0, api.FaultUp, 0) },
	} {
		p := both(t)
		p.must(0, api.GiveCall, 0, 1, 0)
		p.must(1, api.MapCall, 9, 1, 1)
		for core := range 2 {
			if _, e := p.load(core, 1, 9*32, false); e != api.OK {
				t.Fatal(k, e)
			}
		}
		change(p)
		noted := len(p.k.Log())
		for core := range 2 {
			if v, e := p.load(core, 1, 9*32, false); v != 0 || e != api.ErrFault {
				t.Error(k, v, e)
			}
			if e := p.store(core, 1, 9*32, 1, false); e != api.ErrFault {
				t.Error(k, e)
			}
		}
		if len(p.k.Log()) != noted {
			t.Error(k, p.k.Log())
		}
	}
}
