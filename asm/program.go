package asm

import (
	"strconv"
	"strings"

	"embrasure/api"
	"embrasure/isa"
	"embrasure/name"
	"embrasure/word"
)

// size is how many bytes an instruction has.
const size = 4

// program is a text that has been read: its labels, as they come; where they stand; its instructions.
type program struct {
	labels       []string
	places       map[string]api.Word
	instructions []instruction
}

// instruction is a line of words, and the line's number.
type instruction struct {
	line  int
	words []string
}

// read gives up at the first line that Labels refuses.
func read(text string) program {
	p := program{places: map[string]api.Word{}}
	for i, line := range Lines(text) {
		l := words(line)
		switch {
		case len(l) == 0:
		case len(l) == 1 && strings.HasSuffix(l[0], ":"):
			p.mark(i+1, strings.TrimSuffix(l[0], ":"))
		case len(p.instructions) == api.MaxLines:
			giveUp(i+1, api.ErrSpace)
		default:
			p.instructions = append(p.instructions, instruction{line: i + 1, words: l})
		}
	}
	return p
}

// mark says that a label is the place of the next instruction.
func (p *program) mark(line int, label string) {
	if !isLabel(label) {
		giveUp(line, api.ErrForm)
	}
	if _, there := p.places[label]; there {
		giveUp(line, api.ErrExist)
	}
	p.labels = append(p.labels, label)
	p.places[label] = api.Word(size * len(p.instructions))
}

func isLabel(s string) bool {
	return name.Label(s) && (s[0] < '0' || s[0] > '9')
}

// translate gives up at the first instruction that is wrong.
func translate(p program) []byte {
	var code []byte
	for _, i := range p.instructions {
		l := i.words
		if asksLabel(l) {
			last := len(l) - 1
			place, there := p.places[l[last]]
			if !there {
				giveUp(i.line, api.ErrNoent)
			}
			l = append(l[:last:last], strconv.Itoa(int(place)))
		}
		code = append(code, encode(i.line, l)...)
	}
	return code
}

func encode(line int, words []string) []byte {
	ins, e := isa.Parse(strings.Join(words, " "))
	if e != api.OK {
		giveUp(line, e)
	}
	b, e := isa.Encode(ins)
	if e != api.OK {
		giveUp(line, e)
	}
	return b
}

// asksLabel tells whether the last word stands for a label's place. A text such as xa may be both a number and a label: it is the number.
func asksLabel(words []string) bool {
	o, ok := isa.ReadWord(words[0])
	if !ok || len(words) != needs(o) {
		return false
	}
	_, _, imm := isa.Uses(o)
	last := words[len(words)-1]
	_, e := word.Parse(last)
	return imm && e != api.OK && isLabel(last)
}

// needs is how many words an operation's line has.
func needs(o api.Op) int {
	a, b, imm := isa.Uses(o)
	n := 1
	for _, has := range []bool{a, b, imm} {
		if has {
			n++
		}
	}
	return n
}
