package cpu

import (
	"bytes"
	"math"
	"slices"
	"testing"

	"embrasure/api"
	"embrasure/asm"
	"embrasure/isa"
)

// values are the words at which something turns over.
func values() []api.Word {
	return []api.Word{0, 1, 2, 4, 15, 16, 17, 255, 256, 0x7fff, 0x8000, 0x8001, 0xabcd, 0xfffc, 0xfffe, 0xffff}
}

// sample are registers of which no two are alike.
func sample(pc api.Word) api.Regs {
	return api.Regs{Pc: pc, R: [8]api.Word{0x1011, 0x2022, 3, 0x8044, 5, 0xff66, 0, 0x0c80}}
}

// ins is the instruction of a text.
func ins(t *testing.T, text string) api.Ins {
	t.Helper()
	i, e := isa.Parse(text)
	if e != api.OK {
		t.Fatal(text, e)
	}
	return i
}

// code are the bytes of a program.
func code(t *testing.T, text string) []byte {
	t.Helper()
	b, line, e := asm.Assemble(text)
	if e != api.OK {
		t.Fatal(text, line, e)
	}
	return b
}

// rightIns calls f with right instructions: all operations, of those that have them all A and B, and some Imm.
func rightIns(f func(i api.Ins)) {
	for o := api.Nop; o <= api.LastOp; o++ {
		for a := range uint8(8) {
			for b := range uint8(8) {
				for _, imm := range values() {
					i := api.Ins{Op: o, A: a, B: b, Imm: imm}
					if isa.Right(i) {
						f(i)
					}
				}
			}
		}
	}
}

// wrongIns calls f with instructions that are not right.
func wrongIns(f func(i api.Ins)) {
	for o := range 256 {
		for _, a := range []uint8{0, 1, 7, 8, 15, 16, 128, 255} {
			for _, b := range []uint8{0, 1, 7, 8, 15, 16, 128, 255} {
				for _, imm := range []api.Word{0, 1, 0xffff} {
					i := api.Ins{Op: api.Op(o), A: a, B: b, Imm: imm}
					if !isa.Right(i) {
						f(i)
					}
				}
			}
		}
	}
}

// word16 is a number as a word, without the wrap-round of the program.
func word16(n int) api.Word {
	return api.Word(((n % 65536) + 65536) % 65536)
}

// told is what P5.1 says of a right instruction, in numbers without bounds.
func told(s api.Regs, i api.Ins) (api.Regs, api.Access) {
	a, b, imm := int(s.R[i.A]), int(s.R[i.B]), int(i.Imm)
	two := 1
	for range b % 16 {
		two *= 2
	}
	made := map[api.Op]int{
		api.Li: imm, api.Mov: b, api.Add: a + b, api.Sub: a - b, api.Mul: a * b,
		api.And: a & b, api.Or: a | b, api.Xor: a ^ b, api.Shl: a * two, api.Shr: a / two,
	}
	asked := map[api.Op]api.Access{
		api.Ld:  {Kind: api.LoadWord, Addr: word16(b + imm), Reg: i.A},
		api.Ldb: {Kind: api.LoadByte, Addr: word16(b + imm), Reg: i.A},
		api.St:  {Kind: api.StoreWord, Addr: word16(b + imm), Value: word16(a)},
		api.Stb: {Kind: api.StoreByte, Addr: word16(b + imm), Value: word16(a % 256)},
		api.Sys: {Kind: api.SysCall, Value: i.Imm},
	}
	gone := map[api.Op]bool{api.Jmp: true, api.Call: true, api.Jz: a == 0, api.Jnz: a != 0, api.Jlt: a < b}
	if i.Op == api.Halt {
		return s, api.Access{Kind: api.Halted}
	}
	if i.Op == api.Div {
		if b == 0 {
			return s, api.Access{Kind: api.Trapped, Errno: api.ErrZero}
		}
		made[api.Div] = a / b
	}
	n := s
	n.Pc = word16(int(s.Pc) + 4)
	if i.Op == api.Call {
		n.R[7] = n.Pc
	}
	if gone[i.Op] {
		n.Pc = i.Imm
	}
	if i.Op == api.Ret {
		n.Pc = s.R[7]
	}
	if v, ok := made[i.Op]; ok {
		n.R[i.A] = word16(v)
	}
	return n, asked[i.Op]
}

func TestP5_1AllOperations(t *testing.T) {
	rightIns(func(i api.Ins) {
		for _, s := range []api.Regs{{}, sample(8), sample(0xfffc), sample(0xffff)} {
			want, ask := told(s, i)
			if n, a := Exec(s, i); n != want || a != ask {
				t.Fatalf("%+v of %+v: %+v %+v, not %+v %+v", i, s, n, a, want, ask)
			}
		}
	})
}

func TestP5_1AllValues(t *testing.T) {
	for o := api.Nop; o <= api.LastOp; o++ {
		i := api.Ins{Op: o}
		hasA, hasB, hasImm := isa.Uses(o)
		if hasA {
			i.A = 3
		}
		if hasB {
			i.B = 5
		}
		if hasImm {
			i.Imm = 0xfff0
		}
		for _, a := range values() {
			for _, b := range values() {
				s := sample(20)
				s.R[3], s.R[5] = a, b
				want, ask := told(s, i)
				if n, got := Exec(s, i); n != want || got != ask {
					t.Fatalf("%+v of %x and %x: %+v %+v, not %+v %+v", i, a, b, n, got, want, ask)
				}
			}
		}
	}
}

func TestP5_1WrittenOut(t *testing.T) {
	type regs = [8]api.Word
	for _, c := range []struct {
		text     string
		from, to regs
	}{
		{"nop", regs{1, 2}, regs{1, 2}},
		{"li r7 xffff", regs{}, regs{7: 0xffff}},
		{"li r0 0", regs{9}, regs{0}},
		{"mov r1 r2", regs{1: 5, 2: 6}, regs{1: 6, 2: 6}},
		{"mov r1 r1", regs{1: 5}, regs{1: 5}},
		{"add r1 r2", regs{1: 0xffff, 2: 1}, regs{1: 0, 2: 1}},
		{"add r1 r1", regs{1: 0x8001}, regs{1: 2}},
		{"sub r1 r2", regs{1: 0, 2: 1}, regs{1: 0xffff, 2: 1}},
		{"sub r1 r1", regs{1: 7}, regs{}},
		{"mul r1 r2", regs{1: 0x100, 2: 0x101}, regs{1: 0x100, 2: 0x101}},
		{"mul r1 r2", regs{1: 0xffff, 2: 0xffff}, regs{1: 1, 2: 0xffff}},
		{"div r1 r2", regs{1: 7, 2: 2}, regs{1: 3, 2: 2}},
		{"div r1 r2", regs{1: 0xffff, 2: 0xfffe}, regs{1: 1, 2: 0xfffe}},
		{"div r1 r2", regs{1: 1, 2: 0xffff}, regs{1: 0, 2: 0xffff}},
		{"div r1 r1", regs{1: 9}, regs{1: 1}},
		{"and r1 r2", regs{1: 12, 2: 10}, regs{1: 8, 2: 10}},
		{"or r1 r2", regs{1: 12, 2: 10}, regs{1: 14, 2: 10}},
		{"xor r1 r2", regs{1: 12, 2: 10}, regs{1: 6, 2: 10}},
		{"xor r1 r1", regs{1: 12}, regs{}},
		{"shl r1 r2", regs{1: 0xabcd, 2: 4}, regs{1: 0xbcd0, 2: 4}},
		{"shr r1 r2", regs{1: 0xabcd, 2: 4}, regs{1: 0x0abc, 2: 4}},
	} {
		n, a := Exec(api.Regs{Pc: 8, R: c.from}, ins(t, c.text))
		if n != (api.Regs{Pc: 12, R: c.to}) || a != (api.Access{}) {
			t.Errorf("%s: %+v %+v", c.text, n, a)
		}
	}
}

func TestP5_1Accesses(t *testing.T) {
	s := api.Regs{Pc: 8, R: [8]api.Word{1: 0xab12, 2: 0xfff0, 3: 2}}
	next := s
	next.Pc = 12
	for text, want := range map[string]api.Access{
		"ld r1 r3 x10":  {Kind: api.LoadWord, Addr: 18, Reg: 1},
		"ldb r1 r3 x10": {Kind: api.LoadByte, Addr: 18, Reg: 1},
		"ld r7 r2 x11":  {Kind: api.LoadWord, Addr: 1, Reg: 7}, // the sum passes 2^16
		"ldb r0 r0 0":   {Kind: api.LoadByte},
		"st r1 r3 x10":  {Kind: api.StoreWord, Addr: 18, Value: 0xab12},
		"stb r1 r3 x10": {Kind: api.StoreByte, Addr: 18, Value: 0x12},
		"st r2 r2 x10":  {Kind: api.StoreWord, Addr: 0, Value: 0xfff0},
		"stb r2 r2 -1":  {Kind: api.StoreByte, Addr: 0xffef, Value: 0xf0},
		"sys 15":        {Kind: api.SysCall, Value: 15},
		"sys 0":         {Kind: api.SysCall},
		"sys xffff":     {Kind: api.SysCall, Value: 0xffff},
	} {
		if n, a := Exec(s, ins(t, text)); n != next || a != want {
			t.Errorf("%s: %+v %+v", text, n, a)
		}
	}
	if n, a := Exec(s, ins(t, "halt")); n != s || a != (api.Access{Kind: api.Halted}) {
		t.Error("halt", n, a)
	}
}

func TestP5_1Jumps(t *testing.T) {
	s := api.Regs{Pc: 8, R: [8]api.Word{0, 1, 0x7fff, 0x8000, 0xffff, 0, 0, 0x64}}
	for text, pc := range map[string]api.Word{
		"jmp 0": 0, "jmp 8": 8, "jmp xffff": 0xffff, "jmp 3": 3,
		"jz r0 40": 40, "jz r1 40": 12, "jz r3 40": 12, "jz r5 40": 40,
		"jnz r0 40": 12, "jnz r1 40": 40, "jnz r4 40": 40,
		"jlt r0 r1 40": 40, "jlt r1 r0 40": 12, "jlt r1 r1 40": 12,
		"jlt r2 r3 40": 40, "jlt r3 r2 40": 12, "jlt r4 r0 40": 12, "jlt r0 r4 40": 40, "jlt r3 r4 40": 40, "jlt r4 r3 40": 12,
		"ret": 0x64,
	} {
		want := s
		want.Pc = pc
		if n, a := Exec(s, ins(t, text)); n != want || a != (api.Access{}) {
			t.Errorf("%s: %+v %+v", text, n, a)
		}
	}
}

func TestP5_1CallAndRet(t *testing.T) {
	for pc, behind := range map[api.Word]api.Word{0: 4, 8: 12, 508: 512, 3: 7, 0xfffb: 0xffff, 0xfffc: 0, 0xffff: 3} {
		s := sample(pc)
		in := s
		in.Pc, in.R[7] = 64, behind
		if n, a := Exec(s, ins(t, "call 64")); n != in || a != (api.Access{}) {
			t.Error(pc, n, a)
		}
		out := in
		out.Pc = behind
		if n, a := Exec(in, ins(t, "ret")); n != out || a != (api.Access{}) {
			t.Error(pc, n, a)
		}
	}
}

func TestP5_1PcGoesRound(t *testing.T) {
	for pc := range 65536 {
		if n, _ := Exec(api.Regs{Pc: api.Word(pc)}, api.Ins{}); int(n.Pc) != (pc+4)%65536 {
			t.Fatal(pc, n)
		}
	}
}

func TestP5_1NotRight(t *testing.T) {
	s := sample(8)
	wrongIns(func(i api.Ins) {
		if n, a := Exec(s, i); n != s || a != (api.Access{Kind: api.Trapped, Errno: api.ErrForm}) {
			t.Fatalf("%+v: %+v %+v", i, n, a)
		}
	})
}

// TestP2NotRightIsNamedFirst: a Div that is not right and is by 0 has the form's error.
func TestP2NotRightIsNamedFirst(t *testing.T) {
	for _, i := range []api.Ins{{Op: api.Div, Imm: 1}, {Op: api.Div, A: 8}, {Op: api.Div, B: 8}, {Op: api.Halt, A: 1}} {
		if n, a := Exec(api.Regs{}, i); n != (api.Regs{}) || a.Kind != api.Trapped || a.Errno != api.ErrForm {
			t.Error(i, n, a)
		}
	}
}

func TestP5_1DivByZero(t *testing.T) {
	for a := range uint8(8) {
		for b := range uint8(8) {
			s := sample(8)
			s.R[b] = 0
			if n, got := Exec(s, api.Ins{Op: api.Div, A: a, B: b}); n != s || got != (api.Access{Kind: api.Trapped, Errno: api.ErrZero}) {
				t.Error(a, b, n, got)
			}
		}
	}
}

func TestP5_1ShiftsModulo16(t *testing.T) {
	for by := range 65536 {
		s := api.Regs{R: [8]api.Word{1: 0xabcd, 2: api.Word(by)}}
		up, _ := Exec(s, api.Ins{Op: api.Shl, A: 1, B: 2})
		down, _ := Exec(s, api.Ins{Op: api.Shr, A: 1, B: 2})
		two := 1 << (by % 16)
		if int(up.R[1]) != 0xabcd*two%65536 || int(down.R[1]) != 0xabcd/two {
			t.Fatal(by, up, down)
		}
	}
}

func TestP5_2Load(t *testing.T) {
	for reg := range 256 {
		for _, v := range values() {
			s := sample(12)
			n, e := Load(s, uint8(reg), v)
			if reg >= 8 {
				if n != (api.Regs{}) || e != api.ErrRange {
					t.Fatal(reg, n, e)
				}
				continue
			}
			want := s
			want.R[reg] = v
			if n != want || e != api.OK {
				t.Fatal(reg, v, n, e)
			}
		}
	}
}

func TestP5_2Fetch(t *testing.T) {
	for pc := range 65536 {
		at, e := Fetch(sample(api.Word(pc)))
		if pc%4 == 0 && pc <= 508 {
			if int(at) != pc || e != api.OK {
				t.Fatal(pc, at, e)
			}
		} else if at != 0 || e != api.ErrFault {
			t.Fatal(pc, at, e)
		}
	}
}

// TestE7FetchKeepsToTheAddressSpace: a step never begins behind the last page.
func TestE7FetchKeepsToTheAddressSpace(t *testing.T) {
	last := api.Word(api.Pages*api.FrameSize - 4)
	if at, e := Fetch(api.Regs{Pc: last}); at != last || e != api.OK {
		t.Error(at, e)
	}
	if at, e := Fetch(api.Regs{Pc: last + 4}); at != 0 || e != api.ErrFault {
		t.Error(at, e)
	}
}

// toldRun is what P5.2 says of Run, one instruction after the other.
func toldRun(s api.Regs, b []byte, most int) (api.Regs, api.Access, int) {
	for n := range 1000 {
		if n >= most {
			return s, api.Access{}, n
		}
		pc := int(s.Pc)
		if pc%4 != 0 || len(b)-pc < 4 {
			return s, api.Access{Kind: api.Trapped, Errno: api.ErrFault}, n
		}
		i, e := isa.Decode(b[pc : pc+4])
		if e != api.OK {
			return s, api.Access{Kind: api.Trapped, Errno: api.ErrForm}, n
		}
		to, a := told(s, i)
		if a.Kind == api.Trapped {
			return s, a, n
		}
		if s = to; a.Kind != api.NoAccess {
			return s, a, n + 1
		}
	}
	return s, api.Access{}, 1000
}

func runs(t *testing.T, what string, s api.Regs, b []byte, most int, want api.Regs, ask api.Access, many int) {
	t.Helper()
	if n, a, done := Run(s, b, most); n != want || a != ask || done != many {
		t.Errorf("%s: %+v %+v %d, not %+v %+v %d", what, n, a, done, want, ask, many)
	}
}

func TestP5_2RunExample(t *testing.T) {
	b := code(t, "li r1 3\nadd r1 r1\nhalt")
	runs(t, "the example", api.Regs{}, b, 9, api.Regs{Pc: 8, R: [8]api.Word{1: 6}}, api.Access{Kind: api.Halted}, 3)
}

func TestP5_2RunMost(t *testing.T) {
	loop := code(t, "loop:\nadd r1 r2\njmp loop")
	for most, done := range map[int]int{
		math.MinInt: 0, -1000: 0, -1: 0, 0: 0, 1: 1, 2: 2, 7: 7, 999: 999, 1000: 1000, 1001: 1000, 5000: 1000, math.MaxInt: 1000,
	} {
		s := api.Regs{R: [8]api.Word{2: 1}}
		want := s
		want.R[1] = api.Word((done + 1) / 2)
		want.Pc = api.Word(done % 2 * 4)
		runs(t, "the loop", s, loop, most, want, api.Access{}, done)
	}
	// None is done, so nothing is looked at either.
	for _, b := range [][]byte{nil, {0xff, 0xff, 0xff, 0xff}, code(t, "halt")} {
		runs(t, "none", sample(3), b, 0, sample(3), api.Access{}, 0)
	}
}

func TestP5_2RunTraps(t *testing.T) {
	fault := api.Access{Kind: api.Trapped, Errno: api.ErrFault}
	form := api.Access{Kind: api.Trapped, Errno: api.ErrForm}
	two := code(t, "nop\nnop")
	runs(t, "nil", api.Regs{}, nil, 5, api.Regs{}, fault, 0)
	runs(t, "no byte", api.Regs{}, []byte{}, 5, api.Regs{}, fault, 0)
	for spare := range 4 {
		b := append(bytes.Clone(two), make([]byte, spare)...)
		runs(t, "up to the end", api.Regs{}, b, 5, api.Regs{Pc: 8}, fault, 2)
		runs(t, "at the end", api.Regs{Pc: 8}, b, 5, api.Regs{Pc: 8}, fault, 0)
	}
	for _, pc := range []api.Word{1, 2, 3, 5, 6, 7, 9, 12, 508, 0xfffc, 0xffff} {
		runs(t, "not a place", sample(pc), two, 5, sample(pc), fault, 0)
	}
	runs(t, "jump between", api.Regs{}, code(t, "jmp 6\nnop\nnop"), 5, api.Regs{Pc: 6}, fault, 1)
	runs(t, "jump far", api.Regs{}, code(t, "jmp xfffc"), 5, api.Regs{Pc: 0xfffc}, fault, 1)
	for _, wrong := range [][]byte{{0, 0, 0, 1}, {24, 0, 0, 0}, {255, 255, 255, 255}, {3, 0x80, 0, 0}, {3, 8, 0, 0}, {1, 1, 0, 0}, {7, 0, 0, 1}} {
		runs(t, "not right", api.Regs{}, append(bytes.Clone(two), wrong...), 5, api.Regs{Pc: 8}, form, 2)
	}
	runs(t, "by 0", api.Regs{}, code(t, "nop\nli r1 5\ndiv r1 r2\nhalt"), 5, api.Regs{Pc: 8, R: [8]api.Word{1: 5}}, api.Access{Kind: api.Trapped, Errno: api.ErrZero}, 2)
}

func TestP5_2RunAsks(t *testing.T) {
	for text, want := range map[string]api.Access{
		"ld r3 r1 2":  {Kind: api.LoadWord, Addr: 9, Reg: 3},
		"ldb r3 r1 2": {Kind: api.LoadByte, Addr: 9, Reg: 3},
		"st r1 r1 2":  {Kind: api.StoreWord, Addr: 9, Value: 7},
		"stb r1 r1 2": {Kind: api.StoreByte, Addr: 9, Value: 7},
		"sys 4":       {Kind: api.SysCall, Value: 4},
	} {
		runs(t, text, api.Regs{}, code(t, "li r1 7\n"+text+"\nli r1 9"), 100, api.Regs{Pc: 8, R: [8]api.Word{1: 7}}, want, 2)
		runs(t, text+", one fewer", api.Regs{}, code(t, "li r1 7\n"+text), 1, api.Regs{Pc: 4, R: [8]api.Word{1: 7}}, api.Access{}, 1)
	}
	runs(t, "halt", api.Regs{}, code(t, "halt"), 1, api.Regs{}, api.Access{Kind: api.Halted}, 1)
}

// TestP5_2RunLongCode: Pc reaches the last instruction that a word can name, and goes round from there.
func TestP5_2RunLongCode(t *testing.T) {
	for _, room := range []int{65536, 65540, 70000} {
		b := make([]byte, room)
		runs(t, "round", api.Regs{Pc: 0xfff8}, b, 4, api.Regs{Pc: 8}, api.Access{}, 4)
	}
	runs(t, "one byte short", api.Regs{Pc: 0xfff8}, make([]byte, 65535), 4, api.Regs{Pc: 0xfffc}, api.Access{Kind: api.Trapped, Errno: api.ErrFault}, 1)
}

// TestE1RunOfAnything holds Run against the chapter at programs made by a rule, most of which go astray.
func TestE1RunOfAnything(t *testing.T) {
	seed := uint32(1)
	chance := func(n int) int {
		seed = seed*1664525 + 1013904223
		return int(seed>>8) % n
	}
	for range 3000 {
		b := make([]byte, chance(60))
		for k := range b {
			switch k % 4 {
			case 0:
				b[k] = byte(chance(25))
			case 1:
				b[k] = byte(chance(9)*16 + chance(9))
			case 3:
				b[k] = byte(chance(16) * 4)
			}
		}
		s := sample(api.Word(chance(10) * 4))
		for _, most := range []int{chance(1200), 3, 1000} {
			want, ask, many := toldRun(s, b, most)
			if n, a, done := Run(s, b, most); n != want || a != ask || done != many {
				t.Fatalf("%x of %+v, %d: %+v %+v %d, not %+v %+v %d", b, s, most, n, a, done, want, ask, many)
			}
		}
	}
}

func TestP5_6RunInTwoPieces(t *testing.T) {
	for _, text := range []string{
		"li r1 3\nadd r1 r1\nhalt",
		"li r1 100\nli r2 1\nloop:\nsub r1 r2\njnz r1 loop\nsys 3",
		"li r1 5\nli r3 1\nloop:\ncall twice\nsub r1 r3\njnz r1 loop\nld r1 r2 6\ntwice:\nadd r2 r1\nret",
		"li r1 1\nmul r2 r1\ndiv r1 r2",
		"nop\nnop\njmp 2",
		"nop\nnop",
	} {
		b := code(t, text)
		for n := range 40 {
			for m := range 40 {
				s1, a1, done1 := Run(api.Regs{}, b, n)
				// What asked for something would be asked again; what trapped traps again.
				if a1.Kind != api.NoAccess && (a1.Kind != api.Trapped || m == 0) {
					continue
				}
				s2, a2, done2 := Run(s1, b, m)
				runs(t, text, api.Regs{}, b, n+m, s2, a2, done1+done2)
			}
		}
	}
}

func TestP3RunLeavesCode(t *testing.T) {
	room := append(code(t, "li r1 3\nadd r1 r1\nst r1 r1 0\nhalt"), 9, 8, 7, 6)
	before := bytes.Clone(room)
	Run(api.Regs{}, room[:12], 10)
	Run(api.Regs{Pc: 12}, room[:12:12], 10)
	if !bytes.Equal(room, before) {
		t.Error(room)
	}
}

// TestP6SameAnswers: what was done ahead does not matter.
func TestP6SameAnswers(t *testing.T) {
	b := code(t, "add r1 r2\ndiv r1 r6")
	first, ask, many := Run(sample(0), b, 5)
	for range 3 {
		runs(t, "again", sample(0), b, 5, first, ask, many)
		Run(sample(4), []byte{255, 0, 0, 0}, 5)
		Exec(sample(4), api.Ins{Op: 99})
	}
	if i := (api.Ins{Op: api.Add, A: 1, B: 2}); !slices.Equal(Reads(i), Reads(i)) {
		t.Error("Reads")
	}
}
