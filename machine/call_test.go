package machine

import (
	"strconv"
	"testing"

	"embrasure/api"
)

// caller is a machine of eight frames, four sectors and two cores: environment 0 (frames 0 and 1, core 1) has told where calls come to; environment 1 (frames 2 to 4, core 0, sectors 0 and 1) does a call of the kind, with registers that are told apart.
func caller(t *testing.T, kind, x, y, z api.Word) *Machine {
	t.Helper()
	m := begin(t, 8, 4, 2)
	put(t, m, "nop", 2, 1, 0)
	put(t, m, "sys "+strconv.Itoa(int(kind))+"\nhalt", 3, 0, 0)
	k := m.Kernel()
	k.Call(0, api.EntryCall, api.Word(api.CallUp), 64, 0)
	k.Extent(1, 0, 2)
	k.Set(1, api.Regs{R: [8]api.Word{100, x, y, z, 104, 105, 106, 107}})
	return m
}

// TestP17_2EachCall: what each kind of call comes to in registers 0 and 1; registers 1, 2 and 3 are what it was asked with; all others stay.
func TestP17_2EachCall(t *testing.T) {
	for _, c := range []struct {
		kind  api.CallKind
		x     api.Word
		y     api.Word
		z     api.Word
		want  api.Errno
		value api.Word
	}{
		{api.AllocCall, 5, 0, 0, api.OK, 0},
		{api.AllocCall, 0, 0, 0, api.ErrExist, 0},
		{api.AllocCall, 8, 0, 0, api.ErrRange, 0},
		{api.AllocCall, 5, 3, 0, api.ErrNoent, 0},
		{api.FreeCall, 4, 0, 0, api.OK, 0},
		{api.FreeCall, 0, 0, 0, api.ErrPerm, 0},
		{api.MapCall, 9, 3, 1, api.OK, 0},
		{api.MapCall, 9, 0, 0, api.ErrPerm, 0},
		{api.MapCall, 9, 7, 0, api.ErrNoent, 0},
		{api.MapCall, 16, 3, 0, api.ErrRange, 0},
		{api.UnmapCall, 2, 0, 0, api.OK, 0},
		{api.UnmapCall, 0, 0, 0, api.OK, 0},
		{api.UnmapCall, 3, 0, 0, api.ErrNoent, 0},
		{api.GiveCall, 0, 0, 0, api.OK, 1},
		{api.GiveCall, 1, 0, 0, api.ErrNoent, 0},
		{api.GiveCall, 0, 2, 0, api.ErrNoent, 0},
		{api.RestrictCall, 0, 7, 1, api.OK, 0},
		{api.RestrictCall, 0, 0, 1, api.ErrExist, 0},
		{api.DropCall, 0, 0, 0, api.OK, 0},
		{api.DropCall, 12, 0, 0, api.ErrRange, 0},
		{api.EntryCall, 4, 0xffff, 0, api.OK, 0},
		{api.EntryCall, 5, 64, 0, api.ErrRange, 0},
		{api.ReturnCall, 1, 2, 3, api.ErrState, 0},
		{api.CallCall, 0, 77, 0, api.OK, 0},
		{api.CallCall, 1, 77, 0, api.ErrState, 0},
		{api.CallCall, 2, 77, 0, api.ErrNoent, 0},
		{api.YieldCall, 1, 2, 3, api.OK, 0},
		{api.ReadCall, 1, 3, 0, api.OK, 1},
		{api.ReadCall, 2, 3, 0, api.ErrNoent, 0},
		{api.ReadCall, 1, 0, 0, api.ErrPerm, 0},
		{api.WriteCall, 1, 3, 0, api.OK, 1},
		{api.WriteCall, 4, 3, 0, api.ErrRange, 0},
		{api.TimeCall, 9, 9, 9, api.OK, 1},
		{api.SelfCall, 9, 9, 9, api.OK, 1},
		{api.LostCall, 9, 9, 9, api.OK, 0xffff},
	} {
		m := caller(t, api.Word(c.kind), c.x, c.y, c.z)
		if s := step(t, m, 0); s != (api.Step{Kind: api.Called, Env: 1, Word: api.Word(c.kind), Errno: c.want}) {
			t.Error(c, s)
		}
		want := api.Regs{Pc: 4, R: [8]api.Word{api.Word(c.want), c.value, c.y, c.z, 104, 105, 106, 107}}
		if got := m.Kernel().Regs(1); got != want {
			t.Error(c, got)
		}
	}
}

// TestP17_2CallsAreTheKernels: all else is what the kernel makes of the call, of any kind and words.
func TestP17_2CallsAreTheKernels(t *testing.T) {
	for kind := range api.Calls + 3 {
		for _, x := range []api.Word{0, 1, 3, 4, 5, 8, 16, 0xffff} {
			for _, y := range []api.Word{0, 1, 3, 12, 0xffff} {
				m := caller(t, api.Word(kind), x, y, x&1)
				k := m.Kernel().Fork()
				s := step(t, m, 0)
				k.Tick()
				k.Turn(0)
				k.Load(0, 1, 0, true)
				k.Load(0, 1, 2, true)
				regs := k.Regs(1)
				value, e := k.Call(1, kind, x, y, x&1)
				regs.Pc, regs.R[0], regs.R[1] = 4, api.Word(e), value
				k.Set(1, regs)
				want := api.Step{Kind: api.Called, Env: 1, Word: api.Word(kind), Errno: e}
				if kind == api.ExitCall {
					want = api.Step{Kind: api.Ended, Env: 1}
				}
				alike(t, "step", s, want)
				alike(t, "kernel", kernelTells(m.Kernel()), kernelTells(k))
			}
		}
	}
}

// TestP17_2NoCall: kinds that are none, also those whose lower byte is one's.
func TestP17_2NoCall(t *testing.T) {
	for _, kind := range []api.Word{0, 18, 19, 128, 254, 255, 256, 256 + 9, 256 + 11, 256 + 15, 256 + 17, 512 + 17, 0xff0b, 0xff11, 0xffff} {
		m := caller(t, kind, 1, 2, 3)
		if s := step(t, m, 0); s != (api.Step{Kind: api.Called, Env: 1, Word: kind, Errno: api.ErrRange}) {
			t.Error(kind, s)
		}
		want := api.Regs{Pc: 4, R: [8]api.Word{2, 0, 2, 3, 104, 105, 106, 107}}
		if got := m.Kernel().Regs(1); got != want {
			t.Error(kind, got)
		}
		runs(t, m, 0, 1, 1)
	}
}

// TestP17_2Exit: ExitCall ends it: the step has no word; the core runs none.
func TestP17_2Exit(t *testing.T) {
	m := caller(t, api.Word(api.ExitCall), 1, 2, 3)
	if s := step(t, m, 0); s != (api.Step{Kind: api.Ended, Env: 1}) {
		t.Error(s)
	}
	gone(t, m, 1)
	rests(t, m, 0)
	if s := step(t, m, 0); s != (api.Step{}) {
		t.Error(s)
	}
}

// TestP17_2Return: ReturnCall that is done leaves the registers that were kept, all of them; the one that is not has its error.
func TestP17_2Return(t *testing.T) {
	m := caller(t, api.Word(api.ReturnCall), 1, 2, 3)
	k := m.Kernel()
	k.Call(1, api.EntryCall, 3, 0, 0)
	kept := api.Regs{Pc: 4, R: [8]api.Word{200, 201, 202, 203, 204, 205, 206, 207}}
	k.Set(1, kept)
	if !k.Upcall(1, api.DiskUp, 9) {
		t.Fatal("not called up")
	}
	if s := step(t, m, 0); s != (api.Step{Kind: api.Called, Env: 1, Word: 9}) || k.Regs(1) != kept || k.Depth(1) != 0 {
		t.Error(s, k.Regs(1))
	}
	kept.Pc = 0
	k.Set(1, kept)
	if s := step(t, m, 0); s != (api.Step{Kind: api.Called, Env: 1, Word: 9, Errno: api.ErrState}) {
		t.Error(s)
	}
	kept.Pc, kept.R[0], kept.R[1] = 4, 9, 0
	if k.Regs(1) != kept {
		t.Error(k.Regs(1))
	}
}

// TestP17_2CalledUp: who is called by another one goes on where it told, with the word, and comes back.
func TestP17_2CalledUp(t *testing.T) {
	m := begin(t, 8, 2, 2)
	put(t, m, "li r1 2\nli r2 up\nsys 8\nloop:\njmp loop\nup:\nmov r5 r1\nst r5 r0 32\nsys 9", 2, 0, 0)
	put(t, m, "li r1 0\nli r2 777\nsys 10\nhalt", 1, 1, 0)
	steps(t, m, 0, 4)
	was := m.Kernel().Regs(0)
	if s := steps(t, m, 1, 3); s != (api.Step{Kind: api.Called, Env: 1, Word: 10}) {
		t.Error(s)
	}
	want := was
	want.Pc, want.R[1], want.R[2] = 16, 777, 2
	if m.Kernel().Regs(0) != want || m.Kernel().Depth(0) != 1 {
		t.Error(m.Kernel().Regs(0))
	}
	steps(t, m, 0, 3)
	if m.Kernel().Regs(0) != was || m.Kernel().Depth(0) != 0 {
		t.Error(m.Kernel().Regs(0))
	}
	if v, _ := m.Kernel().Load(0, 0, 32, true); v != 777 {
		t.Error(v)
	}
}

// TestP17_2Lost: LostCall tells of a frame that was taken.
func TestP17_2Lost(t *testing.T) {
	m := caller(t, api.Word(api.LostCall), 0, 0, 0)
	if e := m.Revoke(1, 4, 1); e != api.OK {
		t.Fatal(e)
	}
	step(t, m, 0)
	if r := m.Kernel().Regs(1); r.R[0] != 0 || r.R[1] != 4 {
		t.Error("it is taken ahead of the step that is done then", r)
	}
}

// TestP17_2Time: TimeCall is modulo 2^16, with the step's own tick.
func TestP17_2Time(t *testing.T) {
	m := caller(t, api.Word(api.TimeCall), 0, 0, 0)
	for range 65535 + 5 {
		m.Kernel().Tick()
	}
	step(t, m, 0)
	if r := m.Kernel().Regs(1); r.R[1] != 5 {
		t.Error(r)
	}
}
