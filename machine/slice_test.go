package machine

import (
	"slices"
	"strings"
	"testing"

	"embrasure/api"
)

const forever = "loop:\njmp loop"

// ticking is a program that tells where TimerUp comes to, in three steps, and goes round; called up it goes round, so many steps, and yields.
func ticking(rounds int) string {
	return "li r1 0\nli r2 tick\nsys 8\nloop:\njmp loop\ntick:\n" + strings.Repeat("nop\n", rounds) + "sys 11\nsys 9"
}

// TestP17_2Idle: a core without slices has no step, but time goes on, and what is due is taken.
func TestP17_2Idle(t *testing.T) {
	m := begin(t, 8, 2, 2)
	put(t, m, "nop", 3, 0, 0)
	m.Revoke(0, 2, 3)
	for n := range 3 {
		if s := step(t, m, 1); s != (api.Step{}) || m.Kernel().Time() != n+1 {
			t.Error(n, s, m.Kernel().Time())
		}
		rests(t, m, 1)
		rests(t, m, 0)
	}
	alike(t, "frames", m.Kernel().Frames(0), []uint8{0, 1})
	if len(m.Kernel().Log()) != 0 {
		t.Error(m.Kernel().Log())
	}
}

// TestP17_2Quantum: at Quantum steps a slice ends of one that has no place for TimerUp; not ahead of them.
func TestP17_2Quantum(t *testing.T) {
	m := begin(t, 8, 2, 1)
	put(t, m, forever, 2, 0, 0)
	put(t, m, forever, 2, 0, 5)
	for _, env := range []uint8{0, 1, 0} {
		for used := 1; used <= 5; used++ {
			if s := step(t, m, 0); s != (api.Step{Kind: api.Ran, Env: env}) {
				t.Fatal(s)
			}
			runs(t, m, 0, env, used)
		}
		if s := step(t, m, 0); s != (api.Step{Kind: api.Ran, Env: env}) {
			t.Fatal(s)
		}
		rests(t, m, 0)
	}
	if m.Kernel().Depth(0)+m.Kernel().Depth(1) != 0 {
		t.Error("called up")
	}
}

// TestE5Turns: two programs that never yield share a core, each has six steps at a time; who has two places has two turns; each core has its own.
func TestE5Turns(t *testing.T) {
	m := begin(t, 8, 2, 2)
	put(t, m, forever, 2, 0, 0)
	put(t, m, forever, 2, 0, 1)
	alike(t, "two", envs(t, m, 0, 36), times(0, 6, 1, 6, 0, 6, 1, 6, 0, 6, 1, 6))
	put(t, m, forever, 2, 1, 3)
	m.Kernel().Slice(0, 0, 5)
	alike(t, "more", envs(t, m, 0, 36), times(0, 12, 1, 6, 0, 12, 1, 6))
	alike(t, "the other core", envs(t, m, 1, 20), times(2, 20))
}

// TestP17_2Yield: YieldCall ends the slice at once; one of a kind that is none does not.
func TestP17_2Yield(t *testing.T) {
	m := begin(t, 8, 2, 1)
	put(t, m, "loop:\nsys 11\njmp loop", 2, 0, 0)
	put(t, m, "loop:\nsys 267\njmp loop", 2, 0, 1)
	alike(t, "turns", envs(t, m, 0, 1), times(0, 1))
	rests(t, m, 0)
	alike(t, "turns", envs(t, m, 0, 16), times(1, 6, 0, 2, 1, 6, 0, 2))
	rests(t, m, 0)
}

// TestP17_2YieldAtQuantum: who yields with its last step is not called up.
func TestP17_2YieldAtQuantum(t *testing.T) {
	m := alone(t, "li r1 0\nli r2 64\nsys 8\nnop\nnop\nsys 11\nnop")
	if s := steps(t, m, 0, 6); s != (api.Step{Kind: api.Called, Word: 11}) || m.Kernel().Depth(0) != 0 || m.Kernel().Regs(0).Pc != 24 {
		t.Error(s, m.Kernel().Depth(0), m.Kernel().Regs(0))
	}
	rests(t, m, 0)
}

// TestP17_2Timer: at Quantum steps one that has a place for TimerUp is called up, with the time, and goes on, until Quantum and 2 times Epilogue steps.
func TestP17_2Timer(t *testing.T) {
	m := begin(t, 8, 2, 2)
	put(t, m, "li r1 0\nli r2 tick\nsys 8\nloop:\njmp loop\ntick:\njmp tick", 2, 0, 0)
	for range 4 {
		step(t, m, 1)
	}
	steps(t, m, 0, 5)
	runs(t, m, 0, 0, 5)
	if m.Kernel().Depth(0) != 0 {
		t.Error("called up ahead of it")
	}
	was := m.Kernel().Regs(0)
	if s := step(t, m, 0); s != (api.Step{Kind: api.Ran}) {
		t.Error(s)
	}
	runs(t, m, 0, 0, 6)
	was.Pc, was.R[1], was.R[2] = 16, 10, 0
	if m.Kernel().Depth(0) != 1 || m.Kernel().Regs(0) != was {
		t.Error(m.Kernel().Depth(0), m.Kernel().Regs(0))
	}
	for used := 7; used <= 13; used++ {
		step(t, m, 0)
		runs(t, m, 0, 0, used)
	}
	step(t, m, 0)
	rests(t, m, 0)
	if m.Kernel().Depth(0) != 1 {
		t.Error("called up again")
	}
}

// TestP17_2TimerTime: the time is told modulo 2^16.
func TestP17_2TimerTime(t *testing.T) {
	m := alone(t, ticking(3))
	for range 65536 + 100 {
		m.Kernel().Tick()
	}
	steps(t, m, 0, 6)
	if r := m.Kernel().Regs(0); r.R[1] != 106 {
		t.Error(r)
	}
}

// TestE5Owed: behind Quantum steps Epilogue more are free; each one more costs a turn; never more than Quantum and 2 times Epilogue are had.
func TestE5Owed(t *testing.T) {
	for rounds := range 12 {
		m := begin(t, 8, 2, 1)
		put(t, m, ticking(rounds), 3, 0, 0)
		put(t, m, forever, 2, 0, 1)
		had := min(6+rounds+1, 14)
		owed := max(0, had-6-4)
		want := times(0, had, 1, 6*(1+owed))
		alike(t, "steps", envs(t, m, 0, len(want)), want)
		if s := step(t, m, 0); s.Env != 0 {
			t.Error(rounds, "paid, and has no turn", s)
		}
	}
}

// TestE5OwedAlone: also one that is alone pays: its core is idle meanwhile.
func TestE5OwedAlone(t *testing.T) {
	m := alone(t, "li r1 0\nli r2 tick\nsys 8\ntick:\njmp tick")
	want := times(0, 14, -1, 4, 0, 14, -1, 4, 0, 14, -1, 4, 0, 14, -1, 4)
	alike(t, "steps", envs(t, m, 0, len(want)), want)
	if m.Kernel().Depth(0) != 4 {
		t.Error(m.Kernel().Depth(0))
	}
	// It is in as many upcalls as can be: the next one ends it, and its slice.
	alike(t, "steps", envs(t, m, 0, 8), times(0, 6, -1, 2))
	gone(t, m, 0)
}

// TestP17_2TimerEnds: TimerUp that cannot be ends it; the step that was done is told, and the core runs none.
func TestP17_2TimerEnds(t *testing.T) {
	m := alone(t, "li r1 0\nli r2 64\nsys 8\nnop\nnop\nnop")
	steps(t, m, 0, 3)
	for range 4 {
		m.Kernel().Upcall(0, api.TimerUp, 0)
	}
	m.Kernel().Set(0, api.Regs{Pc: 12})
	if s := steps(t, m, 0, 3); s != (api.Step{Kind: api.Ran}) {
		t.Error(s)
	}
	gone(t, m, 0)
	rests(t, m, 0)
}

// TestP17_2FaultAtQuantum: a fault at Quantum steps is an upcall, and TimerUp one above it.
func TestP17_2FaultAtQuantum(t *testing.T) {
	m := alone(t, "ld r1 r0 500")
	k := m.Kernel()
	k.Call(0, api.EntryCall, api.Word(api.FaultUp), 0, 0)
	k.Call(0, api.EntryCall, api.Word(api.TimerUp), 40, 0)
	k.Set(0, api.Regs{Pc: 4})
	steps(t, m, 0, 5)
	k.Set(0, api.Regs{})
	if s := step(t, m, 0); s != (api.Step{Kind: api.Faulted, Word: 500}) || k.Depth(0) != 2 {
		t.Error(s, k.Depth(0))
	}
	if r := k.Regs(0); r.Pc != 40 || r.R[1] != 6 || r.R[2] != 0 {
		t.Error(r)
	}
	k.Call(0, api.ReturnCall, 0, 0, 0)
	if r := k.Regs(0); r.Pc != 0 || r.R[1] != 500 || r.R[2] != 1 {
		t.Error(r)
	}
	runs(t, m, 0, 0, 6)
}

// TestP17_2EndsInSlice: of one that ended in its slice nothing is owed; the next step is the next one's.
func TestP17_2EndsInSlice(t *testing.T) {
	for _, last := range []string{"halt", "div r1 r2", "sys 17", "ld r1 r0 500", "jmp 1"} {
		for had := range 6 {
			m := begin(t, 8, 2, 1)
			put(t, m, strings.Repeat("nop\n", had)+last, 2, 0, 0)
			put(t, m, forever, 2, 0, 1)
			many := had + 1
			if last == "jmp 1" {
				many++
			}
			if many > 6 {
				continue
			}
			alike(t, last, envs(t, m, 0, many), times(0, many))
			gone(t, m, 0)
			rests(t, m, 0)
			alike(t, last, envs(t, m, 0, 13), times(1, 13))
		}
	}
}

// TestP17_2EndedElsewhere: a core whose environment ended by others goes on to the next one, whose steps are counted from 0 on; until then it runs the one that ended.
func TestP17_2EndedElsewhere(t *testing.T) {
	for k, end := range []func(m *Machine){
		func(m *Machine) { m.Kernel().Exit(0) },
		func(m *Machine) { m.Kernel().Call(0, api.ExitCall, 0, 0, 0) },
		func(m *Machine) { m.Kernel().Upcall(0, api.CallUp, 0) },
	} {
		m := begin(t, 8, 2, 2)
		put(t, m, forever, 2, 0, 0)
		put(t, m, forever, 2, 0, 1)
		steps(t, m, 0, 4)
		end(m)
		runs(t, m, 0, 0, 4)
		if s := step(t, m, 0); s != (api.Step{Kind: api.Ran, Env: 1}) {
			t.Error(k, s)
		}
		runs(t, m, 0, 1, 1)
		m.Kernel().Exit(1)
		if s := step(t, m, 0); s != (api.Step{}) {
			t.Error(k, s)
		}
		rests(t, m, 0)
	}
}

// TestP17_2TwoCores: one environment on two cores goes on twice as fast; ended on the one it is ended on the other.
func TestP17_2TwoCores(t *testing.T) {
	m := begin(t, 8, 2, 2)
	put(t, m, strings.Repeat("nop\n", 7)+"halt", 2, 0, 0)
	put(t, m, forever, 2, 1, 4)
	m.Kernel().Slice(1, 0, 0)
	for n := range 3 {
		step(t, m, 0)
		step(t, m, 1)
		if m.Kernel().Regs(0).Pc != api.Word(8*n+8) {
			t.Fatal(m.Kernel().Regs(0))
		}
		runs(t, m, 0, 0, n+1)
		runs(t, m, 1, 0, n+1)
	}
	step(t, m, 0)
	if s := step(t, m, 1); s != (api.Step{Kind: api.Ended}) {
		t.Error(s)
	}
	rests(t, m, 1)
	runs(t, m, 0, 0, 4)
	alike(t, "idle", envs(t, m, 0, 2), []int{-1, -1})
	alike(t, "the next one", envs(t, m, 1, 2), []int{1, 1})
}

// TestP17_2NewSlice: who loaded is taken in while others run, without that a slice is cut.
func TestP17_2NewSlice(t *testing.T) {
	m := begin(t, 8, 2, 1)
	if s := step(t, m, 0); s.Kind != api.Idle {
		t.Error(s)
	}
	put(t, m, forever, 2, 0, 4)
	steps(t, m, 0, 2)
	put(t, m, forever, 2, 0, 0)
	alike(t, "turns", envs(t, m, 0, 16), times(0, 4, 1, 6, 0, 6))
}

// TestP17_4Slices: no slice has more than Quantum and 2 times Epilogue steps, whatever the programs do.
func TestP17_4Slices(t *testing.T) {
	chance := chances(17)
	for range 30 {
		m := begin(t, 16, 4, 2)
		for n := range 4 {
			put(t, m, hostile(chance), 3, n%2, n)
		}
		longest := 0
		for range 300 {
			step(t, m, chance(2))
			for core := range 2 {
				longest = max(longest, m.Used(core))
			}
		}
		if longest > 13 {
			t.Fatal(longest)
		}
	}
}

// TestE5AllHaveTurns: who has a slice, and never takes too long, has its turns within those that all others can take.
func TestE5AllHaveTurns(t *testing.T) {
	m := begin(t, 16, 2, 1)
	for n := range 6 {
		text := "li r1 0\nli r2 tick\nsys 8\ntick:\njmp tick"
		if n == 3 {
			text = forever
		}
		put(t, m, text, 2, 0, n)
	}
	l := envs(t, m, 0, 600)
	last := 0
	for at, env := range l {
		if env == 3 {
			last = at
		}
		if at-last > 5*14 {
			t.Fatal("no turn", at, last)
		}
	}
	if !slices.Contains(l, 3) {
		t.Error(l)
	}
}
