package script

import (
	"slices"
	"strconv"
	"strings"

	"embrasure/api"
	"embrasure/cpu"
	"embrasure/libos"
	"embrasure/machine"
)

const (
	sys   = "sys"  // the first word of a call's line
	wrong = "word" // what a line answers that there is not, or whose words do not fit
)

// player is what a script's lines are played on: a machine, a library, and the program that is written line by line.
type player struct {
	machine *machine.Machine
	library *libos.Library
	program []string
}

func newPlayer() *player {
	return &player{machine: machine.New(16, 8, 2), library: libos.New(12, 8)}
}

// line plays a line: its first word, and those behind it.
func (p *player) line(first string, words []string) string {
	switch first {
	case sys:
		if c, ok := Call(words); ok {
			return replied(p.library.Do(c))
		}
	case "text":
		if len(words) == 1 {
			p.program = append(p.program, strings.ReplaceAll(words[0], "_", blank))
			return done
		}
	default:
		if n, ok := numbers(first, words); ok {
			return p.do(first, n)
		}
	}
	return wrong
}

// do plays a line of a first word, and of numbers that fit.
func (p *player) do(first string, n []int) string {
	k := p.machine.Kernel()
	switch first {
	case "load":
		return p.load(n[0], n[1], n[2])
	case "step":
		// A step is a run of one.
		n = append(n, 1)
		fallthrough
	case "run":
		return p.run(n[0], n[1])
	case "regs":
		return cpu.Print(k.Regs(uint8(n[0])))
	case "maps":
		return listed(k.Maps(uint8(n[0])), mapping)
	case "frames":
		return listed(k.Frames(uint8(n[0])), frame)
	case "revoke":
		return unless(p.machine.Revoke(uint8(n[0]), uint8(n[1]), n[2]), done)
	case "sector":
		id, e := k.Extent(uint8(n[0]), n[1], n[2])
		return unless(e, strconv.Itoa(int(id)))
	case "deliver":
		r, e := p.machine.Deliver(n[0])
		return unless(e, strconv.Itoa(int(r.Id)))
	case "time":
		return strconv.Itoa(k.Time())
	}
	return strconv.Itoa(k.Envs())
}

// load loads the program, of which nothing is left then, whether it was right or not.
func (p *player) load(frames, core, place int) string {
	env, line, e := p.machine.Load(strings.Join(p.program, feed), frames, core, place)
	p.program = nil
	if e != api.OK {
		return failed(e) + blank + strconv.Itoa(line)
	}
	return strconv.Itoa(int(env))
}

// run lets a core go on.
func (p *player) run(core, steps int) string {
	return listed(p.machine.Run(slices.Repeat([]int{core}, steps)...), kind)
}
