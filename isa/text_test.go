package isa

import (
	"regexp"
	"slices"
	"strconv"
	"strings"
	"testing"

	"embrasure/api"
	"embrasure/word"
)

// printed is an instruction as the chapter tells its text.
func printed(i api.Ins) string {
	for _, k := range kinds() {
		if k.op != i.Op {
			continue
		}
		words := []string{k.word}
		for _, c := range k.has {
			switch c {
			case 'A':
				words = append(words, "r"+strconv.Itoa(int(i.A)))
			case 'B':
				words = append(words, "r"+strconv.Itoa(int(i.B)))
			case 'I':
				words = append(words, strconv.Itoa(int(i.Imm)))
			}
		}
		return strings.Join(words, " ")
	}
	return ""
}

// reader reads texts by patterns, one an operation, to hold Parse against.
type reader struct {
	forms []*regexp.Regexp
}

func newReader() reader {
	var r reader
	for _, k := range kinds() {
		form := k.word
		for _, c := range k.has {
			if c == 'I' {
				form += ` ((?s:[^ ])+)`
			} else {
				form += ` r([0-7])`
			}
		}
		r.forms = append(r.forms, regexp.MustCompile(`\A`+form+`\z`))
	}
	return r
}

func (r reader) read(s string) (api.Ins, bool) {
	for n, k := range kinds() {
		m := r.forms[n].FindStringSubmatch(s)
		if m == nil {
			continue
		}
		i := api.Ins{Op: k.op}
		for at, c := range k.has {
			switch c {
			case 'A':
				i.A = m[at+1][0] - '0'
			case 'B':
				i.B = m[at+1][0] - '0'
			case 'I':
				w, e := word.Parse(m[at+1])
				if e != api.OK {
					return api.Ins{}, false
				}
				i.Imm = w
			}
		}
		return i, true
	}
	return api.Ins{}, false
}

func (r reader) hold(t *testing.T, s string) {
	t.Helper()
	want, ok := r.read(s)
	i, e := Parse(s)
	if i != want || ok && e != api.OK || !ok && e != api.ErrForm {
		t.Fatalf("%q: %v, %d, not %v", s, i, e, want)
	}
}

func TestP3_2Word(t *testing.T) {
	for _, k := range kinds() {
		if w := Word(k.op); w != k.word {
			t.Error(k, w)
		}
		if o, ok := ReadWord(k.word); !ok || o != k.op {
			t.Error(k, o, ok)
		}
	}
	for o := int(api.LastOp) + 1; o < 256; o++ {
		if w := Word(api.Op(o)); w != "" {
			t.Error(o, w)
		}
	}
}

func TestP3_2ReadWord(t *testing.T) {
	for _, s := range []string{
		"", " ", "no", "nopp", "nop ", " nop", "Nop", "NOP", "nop\n", "nop\x00", "nop;", "r1", "0", "\xff", "nop\xff", "ｎｏｐ", "nοp", "jump", "ldw", "not",
		strings.Repeat("nop", 100000),
	} {
		if o, ok := ReadWord(s); ok || o != 0 {
			t.Errorf("%q: %d", s, o)
		}
	}
	known := map[string]api.Op{}
	for _, k := range kinds() {
		known[k.word] = k.op
	}
	texts := []string{""}
	for range 4 {
		var longer []string
		for _, s := range texts {
			for _, c := range "abcdhijlmnoprstuvxyz" {
				longer = append(longer, s+string(c))
			}
		}
		for _, s := range longer {
			want, there := known[s]
			if o, ok := ReadWord(s); ok != there || o != want {
				t.Fatal(s, o, ok)
			}
		}
		texts = longer
	}
}

func TestP3_2Print(t *testing.T) {
	each(func(i api.Ins) {
		s, e := Print(i)
		if isRight(i) && (s != printed(i) || e != api.OK) || !isRight(i) && (s != "" || e != api.ErrForm) {
			t.Fatal(i, s, e)
		}
	})
	for want, i := range map[string]api.Ins{
		"nop":             {},
		"li r7 65535":     {Op: api.Li, A: 7, Imm: 65535},
		"mov r0 r0":       {Op: api.Mov},
		"stb r3 r4 32768": {Op: api.Stb, A: 3, B: 4, Imm: 32768},
		"jnz r5 0":        {Op: api.Jnz, A: 5},
		"call 10":         {Op: api.Call, Imm: 10},
		"ret":             {Op: api.Ret},
		"jlt r1 r7 8":     {Op: api.Jlt, A: 1, B: 7, Imm: 8},
		"shr r6 r5":       {Op: api.Shr, A: 6, B: 5},
		"ld r1 r2 16":     {Op: api.Ld, A: 1, B: 2, Imm: 16},
		"sys 17":          {Op: api.Sys, Imm: 17},
		"xor r1 r2":       {Op: api.Xor, A: 1, B: 2},
		"jz r0 384":       {Op: api.Jz, Imm: 384},
		"jmp 0":           {Op: api.Jmp},
		"halt":            {Op: api.Halt},
		"ldb r0 r7 1":     {Op: api.Ldb, B: 7, Imm: 1},
		"st r7 r0 1":      {Op: api.St, A: 7, Imm: 1},
		"and r0 r1":       {Op: api.And, B: 1},
		"div r1 r0":       {Op: api.Div, A: 1},
		"mul r2 r3":       {Op: api.Mul, A: 2, B: 3},
		"sub r3 r2":       {Op: api.Sub, A: 3, B: 2},
		"add r4 r4":       {Op: api.Add, A: 4, B: 4},
		"or r1 r6":        {Op: api.Or, A: 1, B: 6},
		"shl r6 r1":       {Op: api.Shl, A: 6, B: 1},
	} {
		if s, e := Print(i); s != want || e != api.OK {
			t.Error(want, s, e)
		}
		if back, e := Parse(want); back != i || e != api.OK {
			t.Error(want, back, e)
		}
	}
}

func TestP3_2ParseImm(t *testing.T) {
	for s, want := range map[string]api.Word{
		"0": 0, "65535": 65535, "-1": 65535, "-32768": 32768, "x0": 0, "xffff": 65535, "x00f": 15, "'a'": 97, "'ä'": 228, "';'": 59, "'\u00a0'": 160, "'\uffff'": 65535, "'r'": 114,
	} {
		for _, k := range kinds() {
			if !strings.HasSuffix(k.has, "I") {
				continue
			}
			text := k.word + strings.Repeat(" r3", len(k.has)-1) + " " + s
			i, e := Parse(text)
			if e != api.OK || i.Op != k.op || i.Imm != want || !isRight(i) {
				t.Errorf("%q: %v, %d", text, i, e)
			}
		}
	}
	for _, s := range []string{
		"", " ", "' '", "65536", "-32769", "00", "01", "-0", "+1", "x", "x12345", "xF", "0x1", "r1", "'", "''", "'''", "'ab'", "'\x1f'", "'\xff'", "'\U00010000'", "a", "loop",
		"1 ", " 1", "1 1", "1\t", "\t1", "1\n", "1;", "1,", "\xff", strings.Repeat("9", 100000),
	} {
		for _, head := range []string{"jmp ", "li r1 ", "ld r1 r2 ", "jlt r1 r2 "} {
			if i, e := Parse(head + s); i != (api.Ins{}) || e != api.ErrForm {
				t.Errorf("%q: %v, %d", head+s, i, e)
			}
		}
	}
}

// TestP3_2ParseRegisters: a register is r and a digit below Registers, one byte each.
func TestP3_2ParseRegisters(t *testing.T) {
	for first := range 256 {
		for second := range 256 {
			s := string([]byte{byte(first), byte(second)})
			want := first == 'r' && second >= '0' && second <= '7'
			i, e := Parse("li " + s + " 9")
			j, f := Parse("mov r1 " + s)
			if want {
				n := uint8(second - '0')
				if i != (api.Ins{Op: api.Li, A: n, Imm: 9}) || j != (api.Ins{Op: api.Mov, A: 1, B: n}) || e != api.OK || f != api.OK {
					t.Fatalf("%q: %v %v", s, i, j)
				}
			} else if i != (api.Ins{}) || j != (api.Ins{}) || e != api.ErrForm || f != api.ErrForm {
				t.Fatalf("%q: %v %v", s, i, j)
			}
		}
	}
	for _, s := range []string{"", "r", "r00", "r01", "r10", "r1r", "rr1", "R1", "1", "r-1", "r+1", "r１", "r٣", "r1\x00", "r1\xff", "r1,"} {
		if i, e := Parse("add " + s + " r1"); i != (api.Ins{}) || e != api.ErrForm {
			t.Errorf("%q: %v", s, i)
		}
		if i, e := Parse("add r1 " + s); i != (api.Ins{}) || e != api.ErrForm {
			t.Errorf("%q: %v", s, i)
		}
	}
}

// TestP3_2ParseForms: all texts of a few words, of every operation, right and wrong ones.
func TestP3_2ParseForms(t *testing.T) {
	r := newReader()
	pieces := []string{"", "r0", "r7", "r8", "5", "-1", "x1f", "'a'", "'", "65536", "nop", "\t"}
	heads := []string{"", "foo", "r1", "5", "NOP", "nop:", "\tnop"}
	for _, k := range kinds() {
		heads = append(heads, k.word)
	}
	for _, head := range heads {
		texts := []string{head}
		for range 5 {
			var longer []string
			for _, s := range texts {
				r.hold(t, s)
				r.hold(t, s+"\n")
				for _, p := range pieces {
					longer = append(longer, s+" "+p)
				}
			}
			texts = longer
			if len(texts) > 20000 {
				break
			}
		}
	}
}

// TestP3_2ParseBeside: texts that are one byte away from a right one.
func TestP3_2ParseBeside(t *testing.T) {
	r := newReader()
	others := []byte(" \t\n0178rx-';:,naA\x00\xff")
	texts := []string{"ld r1 r2 x10", "li r7 'ä'", "jlt r0 r7 -32768", "jmp 65535", "nop", "mov r3 r4", "stb r1 r1 'r'"}
	for _, k := range kinds() {
		texts = append(texts, printed(api.Ins{Op: k.op, A: 6, B: 5, Imm: 4321}))
	}
	for _, s := range texts {
		r.hold(t, s)
		for at := range len(s) + 1 {
			for _, c := range others {
				r.hold(t, s[:at]+string([]byte{c})+s[at:])
			}
			if at == len(s) {
				continue
			}
			r.hold(t, s[:at])
			r.hold(t, s[at:])
			r.hold(t, s[:at]+s[at+1:])
			for _, c := range others {
				r.hold(t, s[:at]+string([]byte{c})+s[at+1:])
			}
		}
	}
	for _, s := range []string{"", " ", "\x00", "\xff", strings.Repeat(" ", 100000), "nop" + strings.Repeat(" ", 100000), strings.Repeat("li r1 1 ", 10000)} {
		r.hold(t, s)
		if i, e := Parse(s); i != (api.Ins{}) || e != api.ErrForm {
			t.Errorf("%.20q: %v, %d", s, i, e)
		}
	}
}

func TestP3_3Text(t *testing.T) {
	for _, i := range rightOnes() {
		s, e := Print(i)
		if back, d := Parse(s); e != api.OK || d != api.OK || back != i {
			t.Fatal(i, s, back)
		}
	}
}

// TestP6IsaKeepsNothing: a wrong text or instruction ahead changes no answer.
func TestP6IsaKeepsNothing(t *testing.T) {
	for _, s := range []string{"li r1 5", "jlt r1 r2 3", "nop", "foo"} {
		first, e := Parse(s)
		Parse("ld r9 r9 99999")
		Encode(api.Ins{Op: 99})
		ReadCode([]byte{1})
		if again, f := Parse(s); again != first || f != e {
			t.Error(s, first, again)
		}
	}
	words := []string{Word(3), Word(99), Word(3)}
	if !slices.Equal(words, []string{"mov", "", "mov"}) {
		t.Error(words)
	}
}
