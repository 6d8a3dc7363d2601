package machine

import (
	"slices"
	"strings"
	"testing"

	"embrasure/api"
	"embrasure/audit"
)

// TestE1AnyPrograms: whatever programs are, a machine comes to what the plain one comes to, and what is promised of the whole holds.
func TestE1AnyPrograms(t *testing.T) {
	chance := chances(9)
	did := map[string]int{}
	for range 80 {
		d := newDuo(t, 6+chance(11), 1+chance(6), 1+chance(3))
		d.settle(chance)
		d.settle(chance)
		for range 200 {
			if chance(40) == 0 && !d.settle(chance) && chance(2) == 0 {
				break
			}
			before := d.m.Fork()
			what, done := d.play(chance)
			if done {
				did[what]++
			}
			opened(t, before, d.m, what)
			mapped(t, d.m)
			taken(t, before, d.m)
		}
		if !audit.Right(d.m.Kernel().Events(), 64) {
			t.Fatal("not right", d.m.Kernel().Events())
		}
	}
	for _, what := range []string{"idle", "ran", "called", "faulted", "ended", "revoke", "deliver", "fork"} {
		if did[what] < 30 {
			t.Error(what, did[what], "is little")
		}
	}
}

// opened checks P17.5 and E2: what was noted by a step was opened by its environment then, behind the step's tick.
func opened(t *testing.T, before, m *Machine, what string) {
	t.Helper()
	k := before.Kernel()
	noted := m.Kernel().Log()[len(k.Log()):]
	if m.Kernel().Time() > k.Time() {
		k.Tick()
	}
	for _, n := range noted {
		guard, had := k.Guard(n.Frame)
		if !had || !k.Opens(n.Env, api.Cap{Name: guard.Name, Rights: n.Right}) {
			t.Fatal(what, "was not opened", n)
		}
	}
}

// mapped checks that each mapping, also at hand, is of a frame that its environment opens.
func mapped(t *testing.T, m *Machine) {
	t.Helper()
	k := m.Kernel()
	var all []api.Mapping
	for env := range uint8(6) {
		all = append(all, k.Maps(env)...)
	}
	for core := range k.Cores() {
		all = append(all, k.Tlb(core)...)
	}
	for _, at := range all {
		guard, had := k.Guard(at.Frame)
		if !had || !k.Opens(at.Asid, api.Cap{Name: guard.Name, Rights: api.Read}) || at.Write && !k.Opens(at.Asid, api.Cap{Name: guard.Name, Rights: api.Write}) {
			t.Fatal("a mapping that is not opened", at)
		}
	}
}

// taken checks E4: what was asked back until now is not had any more, but for the least frames.
func taken(t *testing.T, before, m *Machine) {
	t.Helper()
	k := m.Kernel()
	for _, a := range before.Kernel().Asked() {
		if a.Until > k.Time() || k.Time() == before.Kernel().Time() {
			continue
		}
		if had := k.Frames(a.Env); slices.Contains(k.Asked(), a) || slices.Contains(had, a.Frame) && len(had) > api.MinFrames {
			t.Fatal("what was asked back is had still", a)
		}
	}
}

// TestE4Revoked: a frame that is asked back is gone when its time is over, whoever has the steps; who gets at it then faults; it is 0.
func TestE4Revoked(t *testing.T) {
	m := begin(t, 8, 2, 2)
	put(t, m, "li r4 9\nloop:\nst r4 r0 64\njmp loop", 3, 0, 0)
	steps(t, m, 0, 4)
	if e := m.Revoke(0, 2, 3); e != api.OK {
		t.Fatal(e)
	}
	step(t, m, 1)
	step(t, m, 1)
	if b, _ := m.Kernel().Frame(2); b[1] != 9 || len(m.Kernel().Frames(0)) != 3 {
		t.Error("taken ahead of its time", b)
	}
	if s := step(t, m, 0); s != (api.Step{Kind: api.Ran}) {
		t.Error(s)
	}
	if b, _ := m.Kernel().Frame(2); slices.Max(b) > 0 {
		t.Error(b)
	}
	if _, had := m.Kernel().Guard(2); had || len(m.Kernel().Maps(0)) == 3 {
		t.Error("mapped still", m.Kernel().Maps(0))
	}
	for _, at := range m.Kernel().Tlb(0) {
		if at.Frame == 2 {
			t.Error("at hand still", at)
		}
	}
	alike(t, "lost", m.Kernel().Lost(0), []uint8{2})
	if s := step(t, m, 0); s != (api.Step{Kind: api.Faulted, Word: 64}) {
		t.Error(s)
	}
}

// TestE2ReadAlone: a frame's capability is given with Read alone: the other one maps it and reads it, and cannot write it; freed it is mapped nowhere.
func TestE2ReadAlone(t *testing.T) {
	m := begin(t, 8, 2, 2)
	// It gives what slot 0 has with Read and Grant to environment 1, and frees frame 2 later.
	put(t, m, "li r1 0\nli r2 1\nli r3 9\nsys 6\nli r1 1\nli r2 1\nsys 5\nli r4 77\nst r4 r0 64\nli r1 2\nsys 2\nhalt", 3, 0, 0)
	put(t, m, "li r1 5\nli r2 2\nli r3 0\nsys 3\nld r5 r6 160\nli r7 1\nst r7 r6 160", 2, 1, 0)
	if s := steps(t, m, 0, 9); s.Kind != api.Ran {
		t.Fatal(s)
	}
	if s := steps(t, m, 1, 4); s != (api.Step{Kind: api.Called, Env: 1, Word: 3}) {
		t.Fatal(s)
	}
	if s := step(t, m, 1); s.Kind != api.Ran || m.Kernel().Regs(1).R[5] != 77 {
		t.Fatal(s, m.Kernel().Regs(1))
	}
	f := m.Fork()
	step(t, f, 1)
	if s := step(t, f, 1); s != (api.Step{Kind: api.Faulted, Env: 1, Word: 160}) {
		t.Error(s)
	}
	step(t, m, 0)
	if s := step(t, m, 0); s != (api.Step{Kind: api.Called, Word: 2}) {
		t.Error(s)
	}
	if maps := m.Kernel().Maps(1); len(maps) != 2 {
		t.Error("mapped still", maps)
	}
	m.Kernel().Set(1, api.Regs{Pc: 16})
	if s := step(t, m, 1); s != (api.Step{Kind: api.Faulted, Env: 1, Word: 160}) {
		t.Error(s)
	}
}

// own are programs of four frames that ask nothing but of their own: they reckon, write their frames, map, restrict, drop, free, fault, return and yield.
func own() []string {
	return []string{
		"loop:\nld r1 r0 96\nli r2 3\nadd r1 r2\nst r1 r0 96\nmul r3 r1\nstb r3 r0 99\njmp loop",
		"li r1 1\nli r2 fault\nsys 8\nloop:\nst r4 r0 200\nadd r4 r4\njmp loop\nfault:\nli r1 6\nli r2 3\nli r3 1\nsys 3\nli r4 5\nsys 9",
		"li r4 3\nst r4 r0 98\nli r1 0\nli r2 5\nli r3 3\nsys 6\nsys 11\nsys 15\nli r1 3\nsys 4\nli r1 9\nli r2 3\nli r3 1\nsys 3\nld r6 r0 290\nstb r6 r0 291\nli r1 5\nsys 7\nli r1 3\nsys 2\nsys 11\nloop:\nsys 99\nadd r7 r6\njmp loop",
	}
}

// quiet is a hostile program that gives nobody anything.
func quiet(chance func(int) int) string {
	lines := strings.Split(hostile(chance), "\n")
	for n, line := range lines {
		if line == "sys 5" {
			lines[n] = "sys 13"
		}
	}
	return strings.Join(lines, "\n")
}

// TestP17_6Alone: what one has in its registers and frames behind its n-th step is the same whatever others do, on its core and on others.
func TestP17_6Alone(t *testing.T) {
	chance := chances(6)
	for _, text := range own() {
		m := begin(t, 16, 4, 1)
		put(t, m, text, 4, 0, 0)
		want := life(t, m, func() int { return 0 })
		if strings.Contains(want[59], "pc=0000 r0=0000 r1=0000 r2=0000 r3=0000 r4=0000") {
			t.Fatal("it did nothing", want[59])
		}
		for range 40 {
			m := begin(t, 16, 4, 3)
			put(t, m, text, 4, 0, 0)
			for n := range 4 {
				put(t, m, quiet(chance), 3, []int{0, 0, 1, 2}[n], 1+n)
			}
			alike(t, text, life(t, m, func() int { return chance(3) }), want)
		}
	}
}

// life is what environment 0 has inside behind each of its first 60 steps.
func life(t *testing.T, m *Machine, core func() int) []string {
	t.Helper()
	var l []string
	for range 10000 {
		s := step(t, m, core())
		if s.Kind != api.Idle && s.Env == 0 {
			l = append(l, inside(m, 0))
		}
		if len(l) == 60 {
			return l
		}
	}
	t.Fatal("it does not go on", len(l))
	return nil
}

// TestE3Calls: nor do calls that others make for it change anything, which it told no place for, nor what they give it and it does not ask for.
func TestE3Calls(t *testing.T) {
	text := own()[0]
	one, two := begin(t, 16, 4, 2), begin(t, 16, 4, 2)
	put(t, one, text, 4, 0, 0)
	put(t, two, text, 4, 0, 0)
	put(t, two, "loop:\nli r1 0\nli r2 0\nsys 5\nli r1 0\nli r2 7\nsys 10\nli r1 4\nli r2 3\nsys 3\nli r1 3\nsys 2\njmp loop", 3, 1, 0)
	for range 60 {
		step(t, one, 0)
		steps(t, two, 1, 3)
		step(t, two, 0)
		if inside(one, 0) != inside(two, 0) {
			t.Fatal(inside(two, 0))
		}
	}
	if len(two.Kernel().Slots(0)) != 12 {
		t.Error("it was given nothing", two.Kernel().Slots(0))
	}
}

// TestE7Limits: the greatest machine goes on with all that it can have, and refuses more.
func TestE7Limits(t *testing.T) {
	m := begin(t, 64, 64, 3)
	long := strings.Repeat("nop\n", 95) + "jmp 0"
	for n := range 6 {
		put(t, m, []string{long, forever}[n%2], []int{16, 12, 16, 1, 16, 3}[n], n%3, 7-n)
	}
	refused(t, m, api.ErrSpace, 0, "nop", 1, 0, 0)
	for core := range 3 {
		for place := range 8 {
			m.Kernel().Slice(core, uint8(core+3*(place%2)), place)
		}
	}
	for range 700 {
		for core := range 3 {
			if s := step(t, m, core); s.Kind != api.Ran {
				t.Fatal(core, s)
			}
		}
	}
	if m.Kernel().Time() != 2100 {
		t.Error(m.Kernel().Time())
	}
}
