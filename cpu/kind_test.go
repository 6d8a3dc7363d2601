package cpu

import (
	"slices"
	"testing"

	"embrasure/api"
)

// touched are what P5.3 says of registers: of each operation which of A, B, 7 it reads, and which it writes.
func touched() map[api.Op][2]string {
	return map[api.Op][2]string{
		api.Nop: {"", ""}, api.Halt: {"", ""}, api.Li: {"", "a"}, api.Mov: {"b", "a"},
		api.Add: {"ab", "a"}, api.Sub: {"ab", "a"}, api.Mul: {"ab", "a"}, api.Div: {"ab", "a"},
		api.And: {"ab", "a"}, api.Or: {"ab", "a"}, api.Xor: {"ab", "a"}, api.Shl: {"ab", "a"}, api.Shr: {"ab", "a"},
		api.Ld: {"b", "a"}, api.Ldb: {"b", "a"}, api.St: {"ab", ""}, api.Stb: {"ab", ""},
		api.Jmp: {"", ""}, api.Jz: {"a", ""}, api.Jnz: {"a", ""}, api.Jlt: {"ab", ""},
		api.Call: {"", "7"}, api.Ret: {"7", ""}, api.Sys: {"", ""},
	}
}

// registers are those that letters name, rising, each once.
func registers(i api.Ins, letters string) []uint8 {
	var l []uint8
	for _, r := range letters {
		l = append(l, map[rune]uint8{'a': i.A, 'b': i.B, '7': 7}[r])
	}
	slices.Sort(l)
	return slices.Compact(l)
}

func TestP5_3ReadsWrites(t *testing.T) {
	table := touched()
	if len(table) != int(api.LastOp)+1 {
		t.Fatal(len(table))
	}
	rightIns(func(i api.Ins) {
		if l := Reads(i); !slices.Equal(l, registers(i, table[i.Op][0])) {
			t.Fatal("Reads", i, l)
		}
		if l := Writes(i); !slices.Equal(l, registers(i, table[i.Op][1])) {
			t.Fatal("Writes", i, l)
		}
	})
}

func TestP5_3NotRightReadsNone(t *testing.T) {
	wrongIns(func(i api.Ins) {
		if r, w := Reads(i), Writes(i); len(r) != 0 || len(w) != 0 {
			t.Fatal(i, r, w)
		}
	})
}

// after are the registers behind an instruction, what it loads lying in them.
func after(s api.Regs, i api.Ins) (api.Regs, api.Access) {
	n, a := Exec(s, i)
	if a.Kind == api.LoadWord || a.Kind == api.LoadByte {
		n, _ = Load(n, a.Reg, 0x5a5a)
	}
	return n, a
}

func TestP5_4WhatIsNotWrittenStays(t *testing.T) {
	check := func(i api.Ins) {
		for _, s := range []api.Regs{{}, sample(8), sample(0xffff)} {
			n, _ := after(s, i)
			for r := range s.R {
				if n.R[r] != s.R[r] && !slices.Contains(Writes(i), uint8(r)) {
					t.Fatal(i, s, n)
				}
			}
		}
	}
	rightIns(check)
	wrongIns(check)
}

// TestP5_4WhatIsWrittenMatters: no register is told to be written that never is.
func TestP5_4WhatIsWrittenMatters(t *testing.T) {
	rightIns(func(i api.Ins) {
		// Of these A is what it was, where B is A.
		if i.A == i.B && (i.Op == api.Mov || i.Op == api.And || i.Op == api.Or) {
			return
		}
		for _, r := range Writes(i) {
			changed := false
			for _, v := range values() {
				for _, w := range values() {
					s := sample(8)
					s.R[i.B], s.R[r] = v, w
					n, _ := after(s, i)
					changed = changed || n.R[r] != w
				}
			}
			if !changed {
				t.Fatal(i, r)
			}
		}
	})
}

func TestP5_5HangsOnWhatIsRead(t *testing.T) {
	rightIns(func(i api.Ins) {
		s := sample(16)
		n, a := after(s, i)
		for r := range s.R {
			if slices.Contains(Reads(i), uint8(r)) {
				continue
			}
			for _, v := range []api.Word{0, 1, 0x8000, 0xffff} {
				other := s
				other.R[r] = v
				m, b := after(other, i)
				// The register itself stays as it is, unless it is written.
				if !slices.Contains(Writes(i), uint8(r)) {
					m.R[r] = n.R[r]
				}
				if m != n || a != b {
					t.Fatal(i, r, v, n, m, a, b)
				}
			}
		}
	})
}

func TestP3ReadsAndWritesAreTheCallers(t *testing.T) {
	i := api.Ins{Op: api.Add, A: 1, B: 2}
	r, w := Reads(i), Writes(i)
	r[0], w[0] = 9, 9
	r = append(r, 9)
	if a, b := Reads(i), Writes(i); !slices.Equal(a, []uint8{1, 2}) || !slices.Equal(b, []uint8{1}) {
		t.Error(a, b, r)
	}
}
