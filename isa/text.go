package isa

import (
	"strconv"
	"strings"

	"embrasure/api"
	"embrasure/word"
)

// words stand as api's operations do.
var words = [...]string{
	"nop", "halt", "li", "mov", "add", "sub", "mul", "div", "and", "or", "xor", "shl", "shr",
	"ld", "st", "ldb", "stb", "jmp", "jz", "jnz", "jlt", "call", "ret", "sys",
}

// Word is an operation's word.
func Word(o api.Op) string {
	if o > api.LastOp {
		return ""
	}
	return words[o]
}

// ReadWord is the operation of a word.
func ReadWord(s string) (api.Op, bool) {
	o, ok := operations()[s]
	return o, ok
}

func operations() map[string]api.Op {
	m := make(map[string]api.Op, len(words))
	for o, w := range words {
		m[w] = api.Op(o)
	}
	return m
}

// Print is an instruction as text.
func Print(i api.Ins) (string, api.Errno) {
	if !Right(i) {
		return "", api.ErrForm
	}
	text := Word(i.Op)
	for _, p := range parts(i) {
		text += " " + show(p)
	}
	return text, api.OK
}

// Parse is the instruction that a text says.
func Parse(s string) (api.Ins, api.Errno) {
	first, rest, more := strings.Cut(s, " ")
	o, ok := ReadWord(first)
	if !ok {
		return api.Ins{}, api.ErrForm
	}
	i := api.Ins{Op: o}
	for _, like := range parts(i) {
		first, rest, more = strings.Cut(rest, " ")
		p, ok := read(first, like)
		if !ok {
			return api.Ins{}, api.ErrForm
		}
		i = lay(i, p)
	}
	// A blank behind the last part is one too many.
	if more {
		return api.Ins{}, api.ErrForm
	}
	return i, api.OK
}

// part is one of those that an instruction has beside its operation: registerA, registerB or number.
type part any

type (
	registerA uint8
	registerB uint8
	number    api.Word
)

// parts are those that an instruction's operation has, as they stand in a text.
func parts(i api.Ins) []part {
	a, b, imm := Uses(i.Op)
	var l []part
	if a {
		l = append(l, registerA(i.A))
	}
	if b {
		l = append(l, registerB(i.B))
	}
	if imm {
		l = append(l, number(i.Imm))
	}
	return l
}

// lay is an instruction with a part.
func lay(i api.Ins, p part) api.Ins {
	switch x := p.(type) {
	case registerA:
		i.A = uint8(x)
	case registerB:
		i.B = uint8(x)
	case number:
		i.Imm = api.Word(x)
	}
	return i
}

func show(p part) string {
	switch x := p.(type) {
	case registerA:
		return "r" + strconv.Itoa(int(x))
	case registerB:
		return "r" + strconv.Itoa(int(x))
	case number:
		return strconv.Itoa(int(x))
	}
	return ""
}

// read is the part of a text, of the kind of another one.
func read(s string, like part) (part, bool) {
	if _, ok := like.(number); ok {
		w, e := word.Parse(s)
		return number(w), e == api.OK
	}
	if len(s) != 2 || s[0] != 'r' || s[1] < '0' || s[1] >= '0'+api.Registers {
		return nil, false
	}
	if _, ok := like.(registerA); ok {
		return registerA(s[1] - '0'), true
	}
	return registerB(s[1] - '0'), true
}
