package machine

import (
	"strconv"
	"strings"

	"embrasure/api"
	"embrasure/isa"
)

// hostile is a program of instructions of any kind, with calls of any kind among them.
func hostile(chance func(int) int) string {
	var lines []string
	for range 4 + chance(14) {
		switch chance(5) {
		case 0, 1:
			lines = append(lines, asked(chance)...)
		case 2:
			// Of most that is got at there is something.
			op := []string{"ld", "st", "ldb", "stb"}[chance(4)]
			lines = append(lines, op+" r"+strconv.Itoa(chance(8))+" r6 "+strconv.Itoa(chance(150)))
		default:
			lines = append(lines, instruction(chance))
		}
	}
	return strings.Join(lines[:min(len(lines), 24)], "\n")
}

// instruction is an instruction that is right.
func instruction(chance func(int) int) string {
	i := api.Ins{Op: api.Op(chance(int(api.LastOp) + 1))}
	if i.Op == api.Halt && chance(4) > 0 {
		i.Op = api.Nop
	}
	a, b, imm := isa.Uses(i.Op)
	if a {
		i.A = uint8(chance(6))
	}
	if b {
		i.B = uint8(chance(8))
	}
	if imm {
		i.Imm = api.Word(4 * chance(20))
		if chance(12) == 0 {
			i.Imm = api.Word(chance(65536))
		}
	}
	text, _ := isa.Print(i)
	return text
}

// asked is a call, with small words.
func asked(chance func(int) int) []string {
	kind := 1 + chance(16)
	first, second := chance(5), chance(16)
	switch api.CallKind(kind) {
	case api.EntryCall:
		second = 4 * chance(20)
	case api.MapCall:
		first = chance(17)
	case api.FreeCall, api.AllocCall:
		first, second = chance(16), chance(2)
	case api.GiveCall, api.DropCall:
		first, second = chance(3), chance(4)
	}
	if chance(40) == 0 {
		kind = []int{0, 17, 18, 255, 256, 267, 0xffff}[chance(7)]
	}
	return []string{
		"li r1 " + strconv.Itoa(first),
		"li r2 " + strconv.Itoa(second),
		"li r3 " + strconv.Itoa(chance(3)),
		"sys " + strconv.Itoa(kind),
	}
}
