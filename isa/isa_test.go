package isa

import (
	"bytes"
	"slices"
	"strings"
	"testing"

	"embrasure/api"
)

// kind is an operation as the chapter tells it: its word, and which of A, B, I it has.
type kind struct {
	op        api.Op
	word, has string
}

func kinds() []kind {
	return []kind{
		{0, "nop", ""}, {1, "halt", ""}, {2, "li", "AI"}, {3, "mov", "AB"}, {4, "add", "AB"}, {5, "sub", "AB"}, {6, "mul", "AB"}, {7, "div", "AB"},
		{8, "and", "AB"}, {9, "or", "AB"}, {10, "xor", "AB"}, {11, "shl", "AB"}, {12, "shr", "AB"}, {13, "ld", "ABI"}, {14, "st", "ABI"}, {15, "ldb", "ABI"},
		{16, "stb", "ABI"}, {17, "jmp", "I"}, {18, "jz", "AI"}, {19, "jnz", "AI"}, {20, "jlt", "ABI"}, {21, "call", "I"}, {22, "ret", ""}, {23, "sys", "I"},
	}
}

// has tells what an operation has; of what is no operation nothing.
func has(o api.Op) (a, b, imm bool) {
	for _, k := range kinds() {
		if k.op == o {
			return strings.Contains(k.has, "A"), strings.Contains(k.has, "B"), strings.Contains(k.has, "I")
		}
	}
	return false, false, false
}

// isRight is the chapter's sentence, clause by clause.
func isRight(i api.Ins) bool {
	a, b, imm := has(i.Op)
	return i.Op <= 23 && i.A < 8 && i.B < 8 && (a || i.A == 0) && (b || i.B == 0) && (imm || i.Imm == 0)
}

func numbers() []api.Word {
	return []api.Word{0, 1, 15, 16, 255, 256, 258, 4096, 32767, 32768, 65280, 65535}
}

// each goes through instructions, right and wrong ones: all operations, all registers that bytes can say and some above them.
func each(f func(i api.Ins)) {
	registers := []uint8{0, 1, 2, 3, 4, 5, 6, 7, 8, 9, 10, 11, 12, 13, 14, 15, 16, 17, 128, 248, 255}
	for o := range 256 {
		for _, a := range registers {
			for _, b := range registers {
				for _, n := range []api.Word{0, 1, 256, 65535} {
					f(api.Ins{Op: api.Op(o), A: a, B: b, Imm: n})
				}
			}
		}
	}
}

// rightOnes are right instructions of all operations, with all registers.
func rightOnes() []api.Ins {
	var l []api.Ins
	for _, k := range kinds() {
		for a := range uint8(8) {
			for b := range uint8(8) {
				for _, n := range numbers() {
					if i := (api.Ins{Op: k.op, A: a, B: b, Imm: n}); isRight(i) {
						l = append(l, i)
					}
				}
			}
		}
	}
	return l
}

func TestP3_1Uses(t *testing.T) {
	for o := range 256 {
		a, b, imm := Uses(api.Op(o))
		if wa, wb, wi := has(api.Op(o)); a != wa || b != wb || imm != wi {
			t.Error(o, a, b, imm)
		}
	}
}

func TestP3_1Right(t *testing.T) {
	each(func(i api.Ins) {
		if Right(i) != isRight(i) {
			t.Fatal(i, Right(i))
		}
	})
	for _, i := range []api.Ins{{}, {Op: api.LastOp}, {Op: api.Li, A: 7, Imm: 65535}, {Op: api.Jlt, A: 7, B: 7, Imm: 65535}, {Op: api.Shr, A: 7, B: 7}} {
		if !Right(i) {
			t.Error(i)
		}
	}
	for _, i := range []api.Ins{
		{Op: api.LastOp + 1}, {Op: 255}, {Op: api.Li, A: 8}, {Op: api.Mov, A: 8}, {Op: api.Mov, B: 8}, {Op: api.Mov, A: 255, B: 255},
		{Op: api.Nop, A: 1}, {Op: api.Nop, B: 1}, {Op: api.Nop, Imm: 1}, {Op: api.Ret, Imm: 1}, {Op: api.Halt, B: 7}, {Op: api.Li, B: 1}, {Op: api.Mov, Imm: 1},
		{Op: api.Jz, B: 1}, {Op: api.Jnz, B: 1}, {Op: api.Jmp, A: 1}, {Op: api.Jmp, B: 1}, {Op: api.Call, A: 7}, {Op: api.Sys, B: 7},
	} {
		if Right(i) {
			t.Error(i)
		}
	}
}

func TestP3_1Encode(t *testing.T) {
	each(func(i api.Ins) {
		b, e := Encode(i)
		if !isRight(i) {
			if len(b) != 0 || e != api.ErrForm {
				t.Fatal(i, b, e)
			}
			return
		}
		want := []byte{byte(i.Op), byte(int(i.A)*16 + int(i.B)), byte(int(i.Imm) / 256), byte(int(i.Imm) % 256)}
		if e != api.OK || !bytes.Equal(b, want) {
			t.Fatal(i, b, e)
		}
	})
}

func TestP3_1Decode(t *testing.T) {
	for o := range 256 {
		for registers := range 256 {
			for _, n := range []int{0, 1, 256, 4660, 65535} {
				b := []byte{byte(o), byte(registers), byte(n / 256), byte(n % 256)}
				want := api.Ins{Op: api.Op(o), A: uint8(registers / 16), B: uint8(registers % 16), Imm: api.Word(n)}
				i, e := Decode(b)
				if isRight(want) && (i != want || e != api.OK) || !isRight(want) && (i != api.Ins{} || e != api.ErrForm) {
					t.Fatal(b, i, e)
				}
			}
		}
	}
	for _, b := range [][]byte{nil, {}, {0}, {0, 0}, {0, 0, 0}, {0, 0, 0, 0, 0}, make([]byte, 8), make([]byte, 100000)} {
		if i, e := Decode(b); i != (api.Ins{}) || e != api.ErrForm {
			t.Error(len(b), i, e)
		}
	}
}

func TestP3_1Code(t *testing.T) {
	if b, e := Code(); len(b) != 0 || e != api.OK {
		t.Error(b, e)
	}
	all := rightOnes()
	var want []byte
	for _, i := range all {
		b, _ := Encode(i)
		want = append(want, b...)
	}
	if b, e := Code(all...); e != api.OK || !bytes.Equal(b, want) {
		t.Error(len(b), e)
	}
	few := []api.Ins{{Op: api.Li, A: 1, Imm: 5}, {Op: api.Add, A: 1, B: 2}, {Op: api.Halt}}
	if b, e := Code(few...); e != api.OK || !bytes.Equal(b, []byte{2, 16, 0, 5, 4, 18, 0, 0, 1, 0, 0, 0}) {
		t.Error(b, e)
	}
	for at := range few {
		l := slices.Clone(few)
		l[at].B = 8
		if b, e := Code(l...); len(b) != 0 || e != api.ErrForm {
			t.Error(at, b, e)
		}
	}
}

func TestP3_1ReadCode(t *testing.T) {
	for _, b := range [][]byte{nil, {}} {
		if l, e := ReadCode(b); len(l) != 0 || e != api.OK {
			t.Error(l, e)
		}
	}
	code := []byte{2, 16, 0, 5, 4, 18, 0, 0, 1, 0, 0, 0}
	want := []api.Ins{{Op: api.Li, A: 1, Imm: 5}, {Op: api.Add, A: 1, B: 2}, {Op: api.Halt}}
	for n := range len(code) + 1 {
		l, e := ReadCode(code[:n])
		if n%4 == 0 && (e != api.OK || !slices.Equal(l, want[:n/4])) || n%4 != 0 && (e != api.ErrForm || len(l) != 0) {
			t.Error(n, l, e)
		}
	}
	for at := 0; at < len(code); at += 4 {
		b := bytes.Clone(code)
		b[at] = 24
		if l, e := ReadCode(b); len(l) != 0 || e != api.ErrForm {
			t.Error(at, l, e)
		}
	}
}

func TestP3_3Bytes(t *testing.T) {
	all := rightOnes()
	for _, i := range all {
		b, e := Encode(i)
		if back, d := Decode(b); e != api.OK || d != api.OK || back != i {
			t.Fatal(i, b, back)
		}
	}
	code, _ := Code(all...)
	back, e := ReadCode(code)
	if e != api.OK || !slices.Equal(back, all) {
		t.Error(len(back), e)
	}
	if again, e := Code(back...); e != api.OK || !bytes.Equal(again, code) {
		t.Error(len(again), e)
	}
}

func TestP3_4Unlike(t *testing.T) {
	byBytes, byText := map[string]api.Ins{}, map[string]api.Ins{}
	for _, i := range rightOnes() {
		b, _ := Encode(i)
		s, _ := Print(i)
		if other, there := byBytes[string(b)]; there {
			t.Fatal(i, other, b)
		}
		if other, there := byText[s]; there {
			t.Fatal(i, other, s)
		}
		byBytes[string(b)], byText[s] = i, i
	}
}

func TestIsaExample(t *testing.T) {
	i, e := Parse("ld r1 r2 x10")
	if e != api.OK {
		t.Fatal(e)
	}
	if b, e := Encode(i); e != api.OK || !bytes.Equal(b, []byte{0x0d, 0x12, 0x00, 0x10}) {
		t.Error(b, e)
	}
}

// TestP3ListsStay: what is handed in stays, what is answered lies nowhere else.
func TestP3ListsStay(t *testing.T) {
	list := []api.Ins{{Op: api.Li, A: 1, Imm: 5}, {Op: api.Halt}, {Op: api.Ret}, {Op: 200}}
	kept := slices.Clone(list)
	first, _ := Code(list[:2]...)
	second, _ := Code(list[:2]...)
	Code(list...)
	if !slices.Equal(list, kept) {
		t.Error(list)
	}
	first[0], first[7] = 9, 9
	if !bytes.Equal(second, []byte{2, 16, 0, 5, 1, 0, 0, 0}) {
		t.Error(second)
	}
	room := append(bytes.Clone(second), 7, 7, 7, 7)
	was := bytes.Clone(room)
	a, _ := ReadCode(room[:8])
	b, _ := ReadCode(room[:8])
	Decode(room[:4])
	ReadCode(room)
	if !bytes.Equal(room, was) {
		t.Error(room)
	}
	room[1] = 0x20
	a[1] = api.Ins{Op: api.Nop}
	if !slices.Equal(b, kept[:2]) {
		t.Error(b)
	}
	one, _ := Encode(kept[0])
	one[0] = 0
	if two, _ := Encode(kept[0]); !bytes.Equal(two, []byte{2, 16, 0, 5}) {
		t.Error(two)
	}
}
