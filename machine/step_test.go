package machine

import (
	"slices"
	"strconv"
	"strings"
	"testing"

	"embrasure/api"
)

// withFault is a program that tells where faults come to (the label fault, which must be in the text), behind which comes the text; it needs three steps ahead of it.
func withFault(text string) string {
	return "li r1 1\nli r2 fault\nsys 8\n" + text
}

func TestP17_2NoCore(t *testing.T) {
	m := alone(t, "nop")
	was := tells(m)
	for _, core := range append(outside(), 2, 3) {
		if s, e := m.Step(core); s != (api.Step{}) || e != api.ErrRange {
			t.Error(core, s, e)
		}
	}
	alike(t, "no core", tells(m), was)
}

func TestP17_2Example(t *testing.T) {
	m := alone(t, "li r1 5\nsys 15\nhalt")
	if s := step(t, m, 0); s != (api.Step{Kind: api.Ran}) || m.Kernel().Regs(0).R[1] != 5 {
		t.Error(s)
	}
	if s := step(t, m, 0); s != (api.Step{Kind: api.Called, Word: 15}) || m.Kernel().Regs(0).R[1] != 0 {
		t.Error(s)
	}
	if s := step(t, m, 0); s != (api.Step{Kind: api.Ended}) || m.Kernel().Alive(0) {
		t.Error(s)
	}
}

// TestP17_2Ran: each instruction that asks for nothing lets the registers be those of the processor; time goes on with each step.
func TestP17_2Ran(t *testing.T) {
	m := alone(t, "li r1 7\nmov r2 r1\nmul r2 r2\nsub r2 r1\njlt r1 r2 24\nhalt\ncall 32\nhalt\nshl r2 r1\nnop\nret")
	want := []api.Regs{
		{Pc: 4, R: [8]api.Word{1: 7}},
		{Pc: 8, R: [8]api.Word{1: 7, 2: 7}},
		{Pc: 12, R: [8]api.Word{1: 7, 2: 49}},
		{Pc: 16, R: [8]api.Word{1: 7, 2: 42}},
		{Pc: 24, R: [8]api.Word{1: 7, 2: 42}},
		{Pc: 32, R: [8]api.Word{1: 7, 2: 42, 7: 28}},
		{Pc: 36, R: [8]api.Word{1: 7, 2: 42 << 7, 7: 28}},
		{Pc: 40, R: [8]api.Word{1: 7, 2: 42 << 7, 7: 28}},
		{Pc: 28, R: [8]api.Word{1: 7, 2: 42 << 7, 7: 28}},
	}
	for n, regs := range want {
		if s := step(t, m, 0); s != (api.Step{Kind: api.Ran}) || m.Kernel().Regs(0) != regs || m.Kernel().Time() != n+1 {
			t.Fatal(n, s, m.Kernel().Regs(0), m.Kernel().Time())
		}
	}
	if s := step(t, m, 0); s != (api.Step{Kind: api.Ended}) {
		t.Error(s)
	}
}

// TestP17_2FetchIsNoted: two words are read of each instruction, of the frame in which it lies, and are at hand on that core alone.
func TestP17_2FetchIsNoted(t *testing.T) {
	m := begin(t, 8, 2, 2)
	put(t, m, "nop", 2, 1, 0)
	put(t, m, strings.Repeat("nop\n", 9), 2, 0, 0)
	var want []api.Noted
	for n := range 9 {
		if s := step(t, m, 0); s != (api.Step{Kind: api.Ran, Env: 1}) {
			t.Fatal(n, s)
		}
		a := api.Noted{Env: 1, Frame: uint8(2 + n/8), Right: api.Read}
		want = append(want, a, a)
		alike(t, "log", m.Kernel().Log(), want)
	}
	hand := []api.Mapping{{Asid: 1, Page: 0, Frame: 2, Write: true}, {Asid: 1, Page: 1, Frame: 3, Write: true}}
	if !slices.Equal(m.Kernel().Tlb(0), hand) || len(m.Kernel().Tlb(1)) != 0 {
		t.Error(m.Kernel().Tlb(0), m.Kernel().Tlb(1))
	}
}

// TestP17_2FetchEdges: the last instruction of a frame, the first one of the next, and the last one of the address space can be done.
func TestP17_2FetchEdges(t *testing.T) {
	for _, at := range []int{0, 28, 32, 60, 64, 480, 504, 508} {
		m := begin(t, 16, 1, 1)
		put(t, m, "jmp "+strconv.Itoa(at), 16, 0, 0)
		if e := m.Kernel().Store(0, 0, api.Word(at), 0x0230, true); e != api.OK && at > 0 {
			t.Fatal(e)
		}
		if e := m.Kernel().Store(0, 0, api.Word(at)+2, 0x1234, true); e != api.OK && at > 0 {
			t.Fatal(e)
		}
		m.Kernel().Set(0, api.Regs{Pc: api.Word(at)})
		if s := step(t, m, 0); s != (api.Step{Kind: api.Ran}) {
			t.Error(at, s)
		}
		if r := m.Kernel().Regs(0); int(r.Pc) != at+4 || r.R[3] != 0x1234 {
			t.Error(at, r)
		}
	}
	m := begin(t, 16, 1, 1)
	put(t, m, "jmp 508", 16, 0, 0)
	steps(t, m, 0, 2)
	if s := step(t, m, 0); s != (api.Step{Kind: api.Faulted, Word: 512}) {
		t.Error("behind the last one", s)
	}
	gone(t, m, 0)
}

// TestP17_2FetchFaults: at an address that is not mapped, that is no instruction's, that is none: without a place for it that ends the environment, and nothing is noted.
func TestP17_2FetchFaults(t *testing.T) {
	for _, at := range []api.Word{1, 2, 3, 5, 29, 30, 31, 62, 63, 64, 65, 66, 68, 96, 480, 508, 509, 510, 511, 512, 513, 516, 0x7ffc, 0x8000, 0xfffc, 0xffff} {
		m := alone(t, "jmp "+strconv.Itoa(int(at)))
		step(t, m, 0)
		noted := len(m.Kernel().Log())
		if s := step(t, m, 0); s != (api.Step{Kind: api.Faulted, Word: at}) {
			t.Error(at, s)
		}
		if len(m.Kernel().Log()) != noted {
			t.Error(at, m.Kernel().Log())
		}
		gone(t, m, 0)
		rests(t, m, 0)
	}
}

// TestP17_2FetchUpcall: with a place for it the environment is called up, with the address, and can go back to it.
func TestP17_2FetchUpcall(t *testing.T) {
	for _, at := range []api.Word{2, 63, 64, 508, 511, 512, 0xffff} {
		m := alone(t, withFault("jmp "+strconv.Itoa(int(at))+"\nfault:\nsys 9"))
		steps(t, m, 0, 4)
		for range 2 {
			was := m.Kernel().Regs(0)
			if was.Pc != at {
				t.Fatal(was)
			}
			if s := step(t, m, 0); s != (api.Step{Kind: api.Faulted, Word: at}) {
				t.Fatal(at, s)
			}
			want := was
			want.Pc, want.R[1], want.R[2] = 16, at, api.Word(api.FaultUp)
			if got := m.Kernel().Regs(0); got != want || m.Kernel().Depth(0) != 1 {
				t.Fatal(at, got, m.Kernel().Depth(0))
			}
			if s := step(t, m, 0); s != (api.Step{Kind: api.Called, Word: 9}) || m.Kernel().Regs(0) != was {
				t.Fatal(at, s, m.Kernel().Regs(0))
			}
		}
	}
}

// TestP17_2FetchReadAlone: a page that may not be written can be run.
func TestP17_2FetchReadAlone(t *testing.T) {
	m := alone(t, "li r1 0\nli r2 0\nli r3 0\nsys 3\nli r5 9\nhalt")
	steps(t, m, 0, 5)
	if m.Kernel().Maps(0)[0].Write || m.Kernel().Regs(0).R[5] != 9 {
		t.Error(m.Kernel().Maps(0), m.Kernel().Regs(0))
	}
	if s := step(t, m, 0); s.Kind != api.Ended {
		t.Error(s)
	}
}

// TestP17_2NoInstruction: four bytes that are none end it: an operation or a register that there is not, and what an operation has not.
func TestP17_2NoInstruction(t *testing.T) {
	for _, code := range [][]byte{
		{24, 0, 0, 0}, {255, 255, 255, 255}, {128, 0, 0, 0},
		{2, 0x80, 0, 1}, {3, 0x18, 0, 0}, {13, 0xf0, 0, 0},
		{0, 0, 0, 1}, {0, 0, 1, 0}, {0, 0x10, 0, 0}, {1, 1, 0, 0}, {4, 0x12, 0, 1}, {22, 0, 0, 9}, {23, 0x10, 0, 15},
	} {
		m := raw(t, append([]byte{0, 0, 0, 0}, code...)...)
		if s := step(t, m, 0); s.Kind != api.Ran {
			t.Fatal(s)
		}
		if s := step(t, m, 0); s != (api.Step{Kind: api.Ended}) {
			t.Error(code, s)
		}
		gone(t, m, 0)
		rests(t, m, 0)
	}
}

// TestP17_2Ended: what traps and what halts ends it, whatever it has told for faults; the step has no word and no error.
func TestP17_2Ended(t *testing.T) {
	for _, text := range []string{"halt", "div r3 r4", "div r4 r4", "sys 17"} {
		m := begin(t, 8, 2, 1)
		put(t, m, "nop", 2, 0, 1)
		env := put(t, m, withFault(text+"\nfault:\nnop"), 3, 0, 0)
		if s := steps(t, m, 0, 4); s != (api.Step{Kind: api.Ended, Env: env}) {
			t.Error(text, s)
		}
		gone(t, m, env)
		rests(t, m, 0)
		events := m.Kernel().Events()[5:]
		alike(t, "events", events, []api.Event{{Kind: api.Freed, Env: 1, Frame: 2}, {Kind: api.Freed, Env: 1, Frame: 3}, {Kind: api.Freed, Env: 1, Frame: 4}})
	}
}

// TestP17_2Div: a division that can be done does not end it.
func TestP17_2Div(t *testing.T) {
	m := alone(t, "li r3 7\nli r4 2\ndiv r3 r4")
	if s := steps(t, m, 0, 3); s != (api.Step{Kind: api.Ran}) || m.Kernel().Regs(0).R[3] != 3 {
		t.Error(s, m.Kernel().Regs(0))
	}
}

// TestP17_2Load: of a word and of a byte, at each edge of a page; the access is noted.
func TestP17_2Load(t *testing.T) {
	for _, c := range []struct {
		text string
		want api.Word
	}{
		{"ld r4 r5 32", 0x0102}, {"ld r4 r5 33", 0x0203}, {"ld r4 r5 62", 0x1f20}, {"ldb r4 r5 32", 1}, {"ldb r4 r5 63", 0x20},
		{"ld r5 r5 40", 0x090a}, {"ldb r0 r5 40", 9},
		{"ld r4 r6 48", 0x0102}, {"ldb r4 r6 48", 1}, {"ld r4 r6 79", 0},
	} {
		m := alone(t, "li r6 -16\n"+c.text)
		for n := range api.Word(32) {
			m.Kernel().Store(0, 0, 32+n, n+1, false)
		}
		noted := len(m.Kernel().Log())
		step(t, m, 0)
		was := m.Kernel().Regs(0)
		s := step(t, m, 0)
		if strings.HasSuffix(c.text, "79") {
			if s != (api.Step{Kind: api.Faulted, Word: 63}) {
				t.Error("the last byte as a word", s)
			}
			continue
		}
		want := was
		want.Pc += 4
		want.R[c.text[strings.Index(c.text, "r")+1]-'0'] = c.want
		if s != (api.Step{Kind: api.Ran}) || m.Kernel().Regs(0) != want {
			t.Error(c.text, s, m.Kernel().Regs(0))
		}
		page, code := api.Noted{Frame: 1, Right: api.Read}, api.Noted{Frame: 0, Right: api.Read}
		alike(t, "log", m.Kernel().Log()[noted:], []api.Noted{code, code, code, code, page})
	}
}

// TestP17_2Store: of a word and of a byte, whose upper one is left out; no other byte is changed, nor a register.
func TestP17_2Store(t *testing.T) {
	for _, c := range []struct {
		text string
		at   int
		want []byte
	}{
		{"st r4 r5 32", 0, []byte{0x12, 0x34}}, {"st r4 r5 33", 1, []byte{0x12, 0x34}}, {"st r4 r5 62", 30, []byte{0x12, 0x34}},
		{"stb r4 r5 32", 0, []byte{0x34}}, {"stb r4 r5 63", 31, []byte{0x34}}, {"st r4 r6 48", 0, []byte{0x12, 0x34}},
	} {
		m := alone(t, "li r6 -16\nli r4 x1234\n"+c.text)
		step(t, m, 0)
		step(t, m, 0)
		noted, want := len(m.Kernel().Log()), m.Kernel().Regs(0)
		want.Pc += 4
		if s := step(t, m, 0); s != (api.Step{Kind: api.Ran}) || m.Kernel().Regs(0) != want {
			t.Error(c.text, s, m.Kernel().Regs(0))
		}
		bytes := make([]byte, 32)
		copy(bytes[c.at:], c.want)
		if got, _ := m.Kernel().Frame(1); !slices.Equal(got, bytes) {
			t.Error(c.text, got)
		}
		code := api.Noted{Frame: 0, Right: api.Read}
		alike(t, "log", m.Kernel().Log()[noted:], []api.Noted{code, code, {Frame: 1, Right: api.Write}})
	}
}

// faults are accesses that fault, of a program of two frames whose page 2 is frame 1, to be read alone (r6 is -16), and the address.
func faults() map[string]api.Word {
	return map[string]api.Word{
		"ld r4 r5 96": 96, "ldb r4 r5 96": 96, "st r4 r5 96": 96, "stb r4 r5 96": 96,
		"ld r4 r5 31": 31, "ld r4 r5 63": 63, "st r4 r5 63": 63, "ld r4 r5 95": 95,
		"st r4 r5 64": 64, "stb r4 r5 64": 64, "stb r4 r5 95": 95,
		"ld r4 r5 511": 511, "ldb r4 r5 511": 511, "ldb r4 r5 512": 512, "ld r4 r5 xffff": 0xffff, "stb r4 r5 xffff": 0xffff,
		"ld r4 r6 0": 0xfff0, "stb r4 r6 15": 0xffff, "ld r5 r5 96": 96, "ldb r1 r6 x8000": 0x7ff0,
	}
}

// TestP17_2AccessFaults: an access that cannot be leaves the registers as they were, and is not noted; without a place for it the environment ends.
func TestP17_2AccessFaults(t *testing.T) {
	for text, addr := range faults() {
		m := begin(t, 8, 2, 1)
		put(t, m, "li r6 -16\nli r4 x1234\n"+text, 2, 0, 0)
		m.Kernel().Call(0, api.MapCall, 2, 1, 0)
		steps(t, m, 0, 2)
		noted := len(m.Kernel().Log())
		if s := step(t, m, 0); s != (api.Step{Kind: api.Faulted, Word: addr}) || len(m.Kernel().Log()) != noted+2 {
			t.Error(text, s, m.Kernel().Log()[noted:])
		}
		gone(t, m, 0)
		rests(t, m, 0)
	}
}

// TestP17_2AccessUpcall: with a place for it the environment is called up; behind ReturnCall it is at the same instruction, with the same registers.
func TestP17_2AccessUpcall(t *testing.T) {
	for text, addr := range faults() {
		m := begin(t, 8, 2, 1)
		put(t, m, text+"\nhalt\nnop\nnop\nnop\nsys 9", 2, 0, 0)
		k := m.Kernel()
		k.Call(0, api.MapCall, 2, 1, 0)
		k.Call(0, api.EntryCall, api.Word(api.FaultUp), 20, 0)
		was := api.Regs{R: [8]api.Word{10, 11, 12, 13, 14, 0, 0xfff0, 17}}
		k.Set(0, was)
		for range 3 {
			if s := step(t, m, 0); s != (api.Step{Kind: api.Faulted, Word: addr}) {
				t.Fatal(text, s)
			}
			want := was
			want.Pc, want.R[1], want.R[2] = 20, addr, 1
			if k.Regs(0) != want || k.Depth(0) != 1 {
				t.Fatal(text, k.Regs(0), k.Depth(0))
			}
			if s := step(t, m, 0); s != (api.Step{Kind: api.Called, Word: 9}) || k.Regs(0) != was || k.Depth(0) != 0 {
				t.Fatal(text, s, k.Regs(0))
			}
		}
		if b, _ := k.Frame(1); slices.Max(b) > 0 {
			t.Error(text, b)
		}
	}
}

// TestP17_2FaultIsMended: what was called up for maps the page, and what faulted is done then.
func TestP17_2FaultIsMended(t *testing.T) {
	m := alone(t, withFault("li r4 77\nstb r4 r0 100\nld r5 r0 100\nhalt\nfault:\nli r1 3\nli r2 1\nli r3 1\nsys 3\nsys 9"))
	var kinds []api.StepKind
	for range 12 {
		kinds = append(kinds, step(t, m, 0).Kind)
	}
	want := []api.StepKind{api.Ran, api.Ran, api.Called, api.Ran, api.Faulted, api.Ran, api.Ran, api.Ran, api.Called, api.Called, api.Ran, api.Ran}
	alike(t, "kinds", kinds, want)
	// Frame 1 is page 1, too, in which the program's last instructions stand.
	if r := m.Kernel().Regs(0); r.R[4] != 77 || r.R[5]>>8 != 77 || m.Kernel().Depth(0) != 0 {
		t.Error(r)
	}
	if s := step(t, m, 0); s.Kind != api.Ended {
		t.Error(s)
	}
}

// TestP17_2FaultsInFaults: more faults than upcalls can be end it.
func TestP17_2FaultsInFaults(t *testing.T) {
	m := alone(t, withFault("fault:\nld r4 r5 500"))
	steps(t, m, 0, 3)
	for n := range 4 {
		if s := step(t, m, 0); s != (api.Step{Kind: api.Faulted, Word: 500}) || m.Kernel().Depth(0) != n+1 {
			t.Fatal(n, s, m.Kernel().Depth(0))
		}
	}
	if s := step(t, m, 0); s != (api.Step{Kind: api.Faulted, Word: 500}) {
		t.Error(s)
	}
	gone(t, m, 0)
}

// TestP17_2WritesItself: a program is what stands in its frames when it is fetched.
func TestP17_2WritesItself(t *testing.T) {
	m := alone(t, "li r4 x0100\nst r4 r5 8\nnop")
	if s := steps(t, m, 0, 3); s != (api.Step{Kind: api.Ended}) {
		t.Error(s)
	}
}
