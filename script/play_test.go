package script

import (
	"fmt"
	"strings"
	"testing"

	"embrasure/api"
	"embrasure/libos"
	"embrasure/machine"
)

// chances is a row of numbers that looks like chance, and is the same for the same seed.
func chances(seed uint32) func(int) int {
	return func(n int) int {
		seed = seed*1664525 + 1013904223
		return int(seed>>8) % n
	}
}

// world is what a script is played on, by hand.
type world struct {
	machine *machine.Machine
	library *libos.Library
	program string
}

// played is a line, and what it must answer, by the calls that it stands for.
type played struct {
	line   string
	answer func(w *world) string
}

// spaced is a line with blanks ahead, between and behind, by chance.
func spaced(chance func(int) int, line string) string {
	gap := func(least int) string {
		if chance(6) > 0 {
			return strings.Repeat(" ", least)
		}
		return strings.Repeat(" ", least+chance(3))
	}
	text := gap(0)
	for n, word := range strings.Split(line, " ") {
		if n > 0 {
			text += gap(1)
		}
		text += word
	}
	return text + gap(0)
}

// fails is an answer, or that of an error.
func fails(e api.Errno, format string, parts ...any) string {
	if e != api.OK {
		return fmt.Sprint("error ", int(e))
	}
	return fmt.Sprintf(format, parts...)
}

// dashed are words, or - of none.
func dashed(words []string) string {
	if len(words) == 0 {
		return "-"
	}
	return strings.Join(words, " ")
}

// anyLine is one of any kind, by chance.
func anyLine(chance func(int) int) played {
	switch chance(10) {
	case 0, 1, 2:
		return callLine(chance)
	case 3:
		return loadLine(chance)
	case 4, 5:
		return stepLine(chance)
	case 6:
		return askLine(chance)
	case 7:
		return wrongLine(chance)
	case 8:
		return textLine(chance)
	}
	return toldLine(chance)
}

// callLine is one of a call of the library.
func callLine(chance func(int) int) played {
	s := sayings()[chance(len(sayings()))]
	c := s.call
	c.Pid = chance(4)
	if c.N != 0 {
		c.N = []int{0, 1, 2, 3, 5, 33, 40, 64, 97, 127, 128, 256, 9999}[chance(13)]
	}
	if c.M != 0 {
		c.M = chance(9)
	}
	if c.Text != "" {
		c.Text = []string{"f", "a", "β", "tx", "A", "17", "long" + strings.Repeat("\t%", 20), strings.Repeat("x", 31)}[chance(8)]
	}
	words := strings.Fields(s.words)
	for n, word := range words {
		switch {
		case n > 0 && word == "3":
			words[n] = fmt.Sprint(c.Pid)
		case n > 0 && word == "4":
			words[n] = fmt.Sprint(c.N)
		case n > 0 && word == "5":
			words[n] = fmt.Sprint(c.M)
		case word == "tx":
			words[n] = c.Text
		}
	}
	return played{"sys " + strings.Join(words, " "), func(w *world) string {
		r := w.library.Do(c)
		answer := "ok"
		if r.N != 0 {
			answer += fmt.Sprint(" ", r.N)
		}
		if r.Text != "" {
			answer += " "
		}
		for _, b := range []byte(r.Text) {
			if b == '%' || b < 33 || b > 126 {
				answer += fmt.Sprintf("%%%02x", b)
			} else {
				answer += string(rune(b))
			}
		}
		return fails(r.Errno, "%s", answer)
	}}
}

// texts are lines of programs, right ones and a few that are not.
func texts() []string {
	return []string{
		"li r1 5", "li r2 1", "add r1 r2", "sys 15", "sys 14", "sys 3", "sys 4", "sys 11", "sys 12", "sys 13", "sys 1", "sys 2", "sys 8", "st r1 r0 40", "ld r3 r0 40", "jmp 0", "jz r1 8", "nop", "  li r3 x1f ; so",
		"ld r1 r0 600", "halt", "sys 17", "no", "a:", "jmp a",
	}
}

func textLine(chance func(int) int) played {
	return textOf(texts()[min(chance(len(texts())), chance(len(texts())))])
}

func textOf(text string) played {
	return played{"text " + strings.ReplaceAll(text, " ", "_"), func(w *world) string {
		w.program += text + "\n"
		return "ok"
	}}
}

func loadLine(chance func(int) int) played {
	frames, core, place := chance(5), chance(5)/2, chance(9)
	if chance(9) == 0 {
		frames = 255
	}
	return loadOf(frames, core, place)
}

func loadOf(frames, core, place int) played {
	return played{fmt.Sprintf("load %d %d %d", frames, core, place), func(w *world) string {
		env, line, e := w.machine.Load(w.program, frames, core, place)
		w.program = ""
		if e != api.OK {
			return fmt.Sprintf("error %d %d", e, line)
		}
		return fmt.Sprint(env)
	}}
}

func stepLine(chance func(int) int) played {
	core, steps := chance(5)/2, 1
	line := fmt.Sprintf("step %d", core)
	if chance(2) == 0 {
		steps = []int{0, 1, 2, 5, 20, 49, 50}[chance(7)]
		line = fmt.Sprintf("run %d %d", core, steps)
	}
	return played{line, func(w *world) string {
		var words []string
		for range steps {
			if s, e := w.machine.Step(core); e == api.OK {
				words = append(words, fmt.Sprint(int(s.Kind)))
			}
		}
		return dashed(words)
	}}
}

func askLine(chance func(int) int) played {
	env, n, many := chance(7), chance(17), chance(12)
	switch chance(3) {
	case 0:
		return played{fmt.Sprintf("revoke %d %d %d", env, n, many), func(w *world) string {
			return fails(w.machine.Kernel().Revoke(uint8(env), uint8(n), many), "ok")
		}}
	case 1:
		return sectorOf(env, n, many)
	}
	return played{fmt.Sprintf("deliver %d", n/6), func(w *world) string {
		r, e := w.machine.Kernel().Deliver(n / 6)
		return fails(e, "%d", r.Id)
	}}
}

func sectorOf(env, from, many int) played {
	return played{fmt.Sprintf("sector %d %d %d", env, from, many), func(w *world) string {
		id, e := w.machine.Kernel().Extent(uint8(env), from, many)
		return fails(e, "%d", id)
	}}
}

// toldLine is one of those that change nothing.
func toldLine(chance func(int) int) played {
	env := chance(7)
	switch chance(5) {
	case 0:
		return played{fmt.Sprintf("regs %d", env), func(w *world) string {
			s := w.machine.Kernel().Regs(uint8(env))
			text := fmt.Sprintf("pc=%04x", int(s.Pc))
			for n, r := range s.R {
				text += fmt.Sprintf(" r%d=%04x", n, int(r))
			}
			return text
		}}
	case 1:
		return played{fmt.Sprintf("maps %d", env), func(w *world) string {
			var words []string
			for _, m := range w.machine.Kernel().Maps(uint8(env)) {
				words = append(words, fmt.Sprintf("%d:%d", m.Page, m.Frame)+map[bool]string{true: "w"}[m.Write])
			}
			return dashed(words)
		}}
	case 2:
		return played{fmt.Sprintf("frames %d", env), func(w *world) string {
			var words []string
			for _, f := range w.machine.Kernel().Frames(uint8(env)) {
				words = append(words, fmt.Sprint(f))
			}
			return dashed(words)
		}}
	case 3:
		return played{"time", func(w *world) string { return fmt.Sprint(w.machine.Kernel().Time()) }}
	}
	return played{"envs", func(w *world) string { return fmt.Sprint(w.machine.Kernel().Envs()) }}
}

// wrongLine is one that there is not.
func wrongLine(chance func(int) int) played {
	all := []string{
		"sys", "sys fork", "sys none 0", "fork 0", "text", "text a b", "load 256 0 0", "load 1 0", "load 01 0 0", "step", "step 0 0", "step -1", "run 0", "run 0 00", "run 0 51", "run 1 52", "run 7 51", "run 0 9999", "regs", "regs 256", "maps 256", "frames 1000", "regs x1",
		"revoke 256 0 0", "revoke 0 256 0", "revoke 0 0", "sector 256 0 1", "sector 0 0", "deliver", "deliver 10000", "time 0", "envs 0", "Time", "word", "ok", "\xff", "\t", "0", "tick",
	}
	return played{all[chance(len(all))], func(*world) string { return "word" }}
}

// lines are some by chance, and seldom one without words. Now and then the first ones are of an environment that asks the disk.
func lines(chance func(int) int, many int) []played {
	var l []played
	if chance(4) == 0 {
		l = []played{textOf("li r1 2"), textOf("sys 12"), textOf("sys 11"), textOf("jmp 0"), loadOf(4, 0, 0), sectorOf(0, 0, 3)}
	}
	for range many {
		if chance(20) == 0 {
			l = append(l, played{})
		} else {
			l = append(l, anyLine(chance))
		}
	}
	return l
}

// joined are lines as a script of at most MaxScript bytes, with other blanks, and those of them that stand in it.
func joined(chance func(int) int, l []played) (string, []played) {
	text := ""
	for n, p := range l {
		line := spaced(chance, p.line) + "\n"
		if len(text)+len(line) > api.MaxScript {
			return text, l[:n]
		}
		text += line
	}
	return text, l
}

// TestE1AnyScript: any lines in any order answer as the calls that they stand for.
func TestE1AnyScript(t *testing.T) {
	kinds := map[string]int{}
	for seed := range uint32(200) {
		chance := chances(seed)
		text, l := joined(chance, lines(chance, 400))
		w := &world{machine: machine.New(16, 8, 2), library: libos.New(12, 8)}
		got := strings.Split(Run(text), "\n")
		for _, p := range l {
			if p.answer == nil {
				continue
			}
			want := p.answer(w)
			if got[0] != want {
				t.Fatalf("%d: %q: %q, not %q", seed, p.line, got[0], want)
			}
			first, _, _ := strings.Cut(p.line, " ")
			kinds[first+" "+strings.Fields(want)[0]]++
			got = got[1:]
		}
		if len(got) != 1 || got[0] != "" {
			t.Fatalf("%d: %q is left", seed, got)
		}
	}
	for _, kind := range strings.Split("sys ok,sys error,text ok,load 0,load 3,load error,step 0,step 1,step 2,step 3,step 4,step -,run 1,run -,maps 0:0w,maps -,frames 0,frames -,revoke ok,revoke error,sector 1,sector error,deliver 1,deliver error,time 0,envs 0,load word", ",") {
		if kinds[kind] == 0 {
			t.Error("there was never", kind)
		}
	}
}

// TestP26_2Beginning: the answers of a script's beginning are the beginning of its answers, wherever a line ends, with a line feed behind the last line and without.
func TestP26_2Beginning(t *testing.T) {
	for seed := range uint32(25) {
		chance := chances(seed + 1000)
		text, _ := joined(chance, lines(chance, 60))
		whole := Run(text)
		for at := range text {
			if text[at] != '\n' {
				continue
			}
			one, other := Run(text[:at]), Run(text[:at+1])
			if one != other || !strings.HasPrefix(whole, one) {
				t.Fatalf("%q: %q, %q, of %q", text[:at], one, other, whole)
			}
			if behind := Run(text[at+1:]); at+1 == len(text) && behind != "" {
				t.Fatal(behind)
			}
		}
	}
}

// TestP26_3Told: regs, maps, frames, time and envs between other lines change nothing of what these answer.
func TestP26_3Told(t *testing.T) {
	for seed := range uint32(60) {
		chance := chances(seed + 2000)
		_, l := joined(chance, lines(chance, 100))
		bare, text, told := "", "", 0
		var marks []bool
		for _, p := range l {
			for range chance(3) {
				text += toldLine(chance).line + "\n"
				marks = append(marks, false)
				told++
			}
			bare += p.line + "\n"
			text += p.line + "\n"
			if p.answer != nil {
				marks = append(marks, true)
			}
		}
		if len(text) > api.MaxScript {
			t.Fatal(len(text))
		}
		var kept []string
		answers := strings.SplitAfter(Run(text), "\n")
		for n, mark := range marks {
			if mark {
				kept = append(kept, answers[n])
			}
		}
		if got := strings.Join(kept, ""); got != Run(bare) || told == 0 {
			t.Fatalf("%q, not %q", got, Run(bare))
		}
	}
}

// TestP1Hostile: any bytes answer lines, and as many as there are lines with words.
func TestP1Hostile(t *testing.T) {
	parts := []string{" ", " ", " ", "\n", "\n", "sys", "text", "load", "step", "run", "regs", "0", "1", "9999", "10000", "-1", "\xff", "\x00", "β", "\t", "%", "_", ":", ";", "fork", "open", "write", "f", "time", "'", "x", "\r"}
	for seed := range uint32(400) {
		chance := chances(seed + 3000)
		text := ""
		for range 300 {
			text += parts[chance(len(parts))]
		}
		many := 0
		for _, line := range strings.Split(text, "\n") {
			if len(Words(line)) > 0 {
				many++
			}
		}
		got := Run(text)
		if strings.Count(got, "\n") != many || many > 0 && !strings.HasSuffix(got, "\n") {
			t.Fatalf("%q: %q", text, got)
		}
		for _, b := range []byte(got) {
			if b != '\n' && (b < 32 || b > 126) {
				t.Fatalf("%q: %q", text, got)
			}
		}
	}
}
