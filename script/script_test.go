package script

import (
	"fmt"
	"slices"
	"strings"
	"testing"

	"embrasure/api"
)

// plays holds what lines answer against what is asked for: each line, and behind > its answer.
func plays(t *testing.T, lines ...string) {
	t.Helper()
	var text, want string
	for _, l := range lines {
		line, answer, answered := strings.Cut(l, " > ")
		text += line + "\n"
		if answered {
			want += answer + "\n"
		}
	}
	got := Run(text)
	if got == want {
		return
	}
	g, w := strings.Split(got, "\n"), strings.Split(want, "\n")
	for n := range min(len(g), len(w)) {
		if g[n] != w[n] {
			t.Fatalf("answer %d: %q, not %q; all: %q", n, g[n], w[n], got)
		}
	}
	t.Fatalf("%q, not %q", got, want)
}

const noRegs = "pc=0000 r0=0000 r1=0000 r2=0000 r3=0000 r4=0000 r5=0000 r6=0000 r7=0000"

func TestP26_1Example(t *testing.T) {
	plays(t, "sys poke 0 5 7 > ok", "sys peek 0 5 > ok 7")
}

// TestP26_1Lines: lines without words answer nothing; blanks are ahead, between and behind; the last line ends with a line feed or without.
func TestP26_1Lines(t *testing.T) {
	for text, want := range map[string]string{
		"":                             "",
		"\n":                           "",
		" ":                            "",
		"\n\n  \n":                     "",
		"time":                         "0\n",
		"time\n":                       "0\n",
		"time\n\n":                     "0\n",
		"\n\ntime":                     "0\n",
		"   time   \n  \n envs ":       "0\n0\n",
		"time\nenvs":                   "0\n0\n",
		"  sys   poke  0   5  7  ":     "ok\n",
		"time\r\nenvs":                 "word\n0\n",
		"time\t":                       "word\n",
		"\ttime":                       "word\n",
		"\t":                           "word\n",
		"sys\tfork 0":                  "word\n",
		"time;":                        "word\n",
		"; time":                       "word\n",
		"time\x00":                     "word\n",
		"\xff\n\xff\xff time\ntime":    "word\nword\n0\n",
		"Time\nTIME\ntimes\ntim\n t i": "word\nword\nword\nword\nword\n",
	} {
		if got := Run(text); got != want {
			t.Errorf("%q: %q, not %q", text, got, want)
		}
	}
}

// TestP26_1LineWords: of each line too few words, and one more; words that are no number in each place; numbers of a byte in the places of E and F, of up to 50 in that of steps (S).
func TestP26_1LineWords(t *testing.T) {
	most := map[string]int{"E": 255, "F": 255, "S": 50, "N": 9999}
	for _, form := range []string{"load F N N", "step N", "run N S", "regs E", "maps E", "frames E", "revoke E F N", "sector E N N", "deliver N", "time", "envs"} {
		words := strings.Fields(form)
		full := append([]string{}, words...)
		for n := range full {
			if n > 0 {
				full[n] = "0"
			}
		}
		if got := Run(strings.Join(full, " ")); got == "word\n" || strings.Count(got, "\n") != 1 {
			t.Errorf("%q: %q", full, got)
		}
		for many := 1; many < len(full); many++ {
			plays(t, strings.Join(full[:many], " ")+" > word")
		}
		for _, more := range []string{"0", "1", "x"} {
			plays(t, strings.Join(full, " ")+" "+more+" > word")
		}
		for n, sign := range words[1:] {
			line := func(word string) string {
				with := append([]string{}, full...)
				with[n+1] = word
				return strings.Join(with, " ")
			}
			for _, bad := range badNumbers() {
				if strings.ContainsAny(bad, " \n") || bad == "" {
					continue
				}
				plays(t, line(bad)+" > word", "time > 0")
			}
			for good, value := range goodNumbers() {
				if got := Run(line(good)); (value <= most[sign]) == (got == "word\n") {
					t.Errorf("%q: %q", line(good), got)
				}
			}
		}
	}
}

// TestP26_1CallLines: too few words of a call's line, as many as it asks for, and one more; a word that is none.
func TestP26_1CallLines(t *testing.T) {
	for _, s := range sayings() {
		words := strings.Fields("sys " + strings.ReplaceAll(s.words, "3", "0"))
		if got := Run(strings.Join(words, " ")); got == "word\n" {
			t.Errorf("%q: %q", words, got)
		}
		for many := 1; many < len(words); many++ {
			plays(t, strings.Join(words[:many], " ")+" > word")
		}
		plays(t, strings.Join(words, " ")+" 0 > word", strings.Join(words[1:], " ")+" > word", "sys "+strings.Join(words, " ")+" > word")
	}
	plays(t, "sys sleep 0 > word", "sys Fork 0 > word", "sys fork 00 > word", "sys fork -1 > word", "sys poke 0 0 10000 > word", "sys poke 0 0 9999 > ok", "sys peek 0 0 > ok 15")
}

// TestP26_1Replies: with N and Text, without N, without Text, without both, and errors.
func TestP26_1Replies(t *testing.T) {
	plays(t,
		"sys fork 0 > ok 1", "sys exit 1 300 > ok", "sys wait 0 > ok 1 44", "sys wait 0 > error 3", "sys fork 0 > ok 1", "sys exit 1 0 > ok", "sys wait 0 > ok 1 0",
		"sys pipe 0 > ok 1", "sys open 0 f 1 > ok 2", "sys pipe 0 > ok 3 4", "sys write 0 2 hello > ok 5", "sys seek 0 2 0 > ok", "sys read 0 2 3 > ok hel", "sys read 0 2 9 > ok lo", "sys read 0 2 9 > ok",
		"sys read 0 0 1 > error 12", "sys write 0 0 x > error 9", "sys seek 0 0 0 > error 9",
	)
}

// TestP26_1Library: a script's library has 12 frames and 8 sectors.
func TestP26_1Library(t *testing.T) {
	lines := []string{"sys fork 0 > ok 1", "sys fork 0 > ok 2", "sys fork 0 > ok 3"}
	for n := range 12 {
		lines = append(lines, fmt.Sprintf("sys poke %d %d %d > ok", n/4, n%4*32, n))
	}
	lines = append(lines, "sys poke 3 0 1 > error 4", "sys peek 3 0 > ok", "sys kill 0 2 > ok", "sys poke 3 0 1 > ok", "sys poke 3 128 1 > error 10")
	text := strings.Repeat("x", 32)
	for n := range 8 {
		if n%3 == 0 {
			lines = append(lines, fmt.Sprintf("sys open 0 f%d 1 > ok%s", n/3, []string{"", " 1", " 2"}[n/3]))
		}
		lines = append(lines, fmt.Sprintf("sys write 0 %d %s > ok 32", n/3, text))
	}
	plays(t, append(lines, "sys write 0 2 x > error 4", "sys unlink 0 f1 > ok", "sys write 0 2 x > error 4", "sys close 0 1 > ok", "sys write 0 2 x > ok 1")...)
}

// TestP26_1Machine: a script's machine has 16 frames, 8 sectors and 2 cores.
func TestP26_1Machine(t *testing.T) {
	plays(t, "load 16 0 0 > 0", "load 1 0 1 > error 4 0", "frames 0 > 0 1 2 3 4 5 6 7 8 9 10 11 12 13 14 15", "sector 0 0 9 > error 2", "sector 0 8 1 > error 2", "sector 0 0 8 > 1")
	plays(t, "load 17 0 0 > error 2 0", "load 8 0 0 > 0", "load 9 0 1 > error 4 0", "load 8 1 0 > 1", "load 1 2 0 > error 2 0", "step 0 > 1", "step 1 > 1", "step 2 > -")
}

// TestP26_1Replied: N only if it is not 0, Text only if it is not empty; of an error its number alone.
func TestP26_1Replied(t *testing.T) {
	for _, c := range []struct {
		reply api.Reply
		want  string
	}{
		{api.Reply{}, "ok"},
		{api.Reply{N: 7}, "ok 7"},
		{api.Reply{N: 9999}, "ok 9999"},
		{api.Reply{Text: "a"}, "ok a"},
		{api.Reply{Text: "0"}, "ok 0"},
		{api.Reply{N: 3, Text: "4"}, "ok 3 4"},
		{api.Reply{Text: "a b\nc"}, "ok a%20b%0ac"},
		{api.Reply{N: 1, Text: " "}, "ok 1 %20"},
		{api.Reply{Text: "%"}, "ok %25"},
		{api.Reply{Text: "%25"}, "ok %2525"},
		{api.Reply{Text: "\x00\x1f !~\x7f\x80\xff"}, "ok %00%1f%20!~%7f%80%ff"},
		{api.Reply{Text: "β\xce"}, "ok %ce%b2%ce"},
		{api.Reply{Text: "\t\r\"'_-"}, "ok %09%0d\"'_-"},
		{api.Reply{Errno: api.ErrNil}, "error 1"},
		{api.Reply{Errno: api.ErrZero}, "error 14"},
	} {
		if got := replied(c.reply); got != c.want {
			t.Errorf("%+v: %q, not %q", c.reply, got, c.want)
		}
	}
	for b := range 256 {
		want := fmt.Sprintf("ok %%%02x", b)
		if b >= 33 && b <= 126 && b != '%' {
			want = "ok " + string(rune(b))
		}
		if got := replied(api.Reply{Text: string([]byte{byte(b)})}); got != want {
			t.Errorf("%d: %q, not %q", b, got, want)
		}
	}
}

// TestP26_1Texts: what was written is told with % for what is from 33 to 126 not, byte by byte.
func TestP26_1Texts(t *testing.T) {
	plays(t,
		"sys open 0 β 1 > ok", "sys write 0 0 a%\tβ\xff_\x00\r > ok 9", "sys seek 0 0 0 > ok", "sys read 0 0 4 > ok a%25%09%ce", "sys read 0 0 9 > ok %b2%ff_%00%0d",
		"sys unlink 0 β > ok", "sys unlink 0 β > error 5", "sys open 0 β 0 > error 5", "sys open 0 \xff 1 > error 3",
	)
}

// TestP26_1Program: text is lines of a program, with _ for blanks, that load loads; behind it the program is empty, also of one that is not right.
func TestP26_1Program(t *testing.T) {
	plays(t, "text li_r1_5 > ok", "text halt > ok", "load 1 0 0 > 0", "run 0 3 > 1 4 0")
	plays(t, "text ___loop:_ > ok", "text __jmp_loop_;_again_a_b > ok", "text _ > ok", "text ;_____ > ok", "load 2 1 3 > 0", "run 1 3 > 1 1 1", "regs 0 > "+noRegs)
	plays(t, "text li_r1_5 > ok", "text jmp_end > ok", "load 1 0 0 > error 5 2", "envs > 0", "load 1 0 0 > 0", "step 0 > 1", "regs 0 > pc=0004"+noRegs[7:])
	plays(t, "text nonsense > ok", "load 1 0 0 > error 3 1", "text a: > ok", "text _ > ok", "text a: > ok", "load 1 0 0 > error 6 3", "text li_r1 > ok", "load 1 0 0 > error 3 1")
	plays(t, "text > word", "text a b > word", "text halt > ok", "text a b c > word", "load 256 0 0 > word", "load 1 0 > word", "load 255 0 0 > error 2 0", "load 1 0 0 > 0", "step 0 > 1")
	plays(t, "text halt > ok", "load 256 0 0 > word", "load 1 0 > word", "load > word", "load 1 0 0 0 > word", "load 1 0 0 > 0", "step 0 > 4")
	plays(t, "text halt > ok", "load 1 2 0 > error 2 0", "load 1 0 0 > 0", "step 0 > 1")
	plays(t, "text \t > ok", "text li\tr1_5 > ok", "load 1 0 0 > 0", "step 0 > 1", "regs 0 > pc=0004 r0=0000 r1=0005"+noRegs[23:])
}

// TestP26_1LoadErrors: each of machine.Load's, with the line 0 but of the text's.
func TestP26_1LoadErrors(t *testing.T) {
	plays(t,
		"load 0 0 0 > error 2 0", "load 17 0 0 > error 2 0", "load 1 0 8 > error 2 0", "load 1 2 0 > error 2 0", "load 1 9999 9999 > error 2 0", "load 1 1 7 > 0", "load 1 1 7 > error 6 0", "load 0 1 7 > error 6 0",
		"load 1 0 7 > 1", "load 1 0 0 > 2", "load 1 0 1 > 3", "load 1 0 2 > 4", "load 1 0 3 > 5", "load 1 0 4 > error 4 0", "envs > 6",
	)
	plays(t, append(slices.Repeat([]string{"text nop > ok"}, 9), "load 1 0 0 > error 2 0", "load 1 0 0 > 0")...)
	plays(t, append(slices.Repeat([]string{"text nop > ok"}, 96), "load 12 0 0 > 0", "run 0 50 > 1"+strings.Repeat(" 1", 49))...)
	plays(t, append(slices.Repeat([]string{"text nop > ok"}, 97), "load 16 0 0 > error 4 97", "load 16 0 0 > 0")...)
}

// TestP26_1Steps: of cores that there are and that there are not, of 0 and up to 50 steps; each kind of step.
func TestP26_1Steps(t *testing.T) {
	fifty := "0" + strings.Repeat(" 0", 49)
	plays(t, "step 0 > 0", "step 1 > 0", "step 2 > -", "step 9999 > -", "time > 2", "run 0 0 > -", "run 1 0 > -", "run 2 0 > -", "run 2 5 > -", "run 2 50 > -", "run 9999 1 > -", "run 9999 50 > -", "time > 2", "run 0 1 > 0", "run 1 3 > 0 0 0", "time > 6")
	plays(t, "run 0 49 > "+fifty[2:], "run 0 50 > "+fifty, "run 1 50 > "+fifty, "time > 149")
	plays(t, "text li_r1_5 > ok", "text sys_15 > ok", "text ld_r1_r0_1000 > ok", "load 2 0 0 > 0", "run 0 4 > 1 2 3 0", "envs > 1", "frames 0 > -", "maps 0 > -", "regs 0 > "+noRegs)
	plays(t, "text sys_11 > ok", "text jmp_0 > ok", "load 1 0 0 > 0", "text halt > ok", "load 1 0 4 > 1", "run 0 6 > 2 4 1 2 1 2", "frames 1 > -", "frames 0 > 0")
}

// TestE7Steps: a run of more steps than a line does is refused, at any core, and no step is done in its place; what stood ahead of it stays.
func TestE7Steps(t *testing.T) {
	for _, core := range []int{0, 1, 2, 7, 9999} {
		for _, steps := range []int{51, 52, 99, 100, 199, 200, 201, 255, 256, 306, 9999} {
			plays(t, fmt.Sprintf("run %d %d > word", core, steps), "time > 0")
		}
	}
	plays(t,
		"text li_r1_5 > ok", "text halt > ok", "run 0 51 > word", "load 1 0 0 > 0", "run 0 51 > word", "regs 0 > "+noRegs, "run 1 51 > word", "run 0 1 > 1", "run 0 9999 > word", "regs 0 > pc=0004 r0=0000 r1=0005"+noRegs[23:], "time > 1",
		"run 0 50 > 4"+strings.Repeat(" 0", 49), "run 0 51 > word", "frames 0 > -", "time > 51",
	)
}

// TestP26_1Regs: the registers of each that there is; of those that there are not, or not any more, all are 0.
func TestP26_1Regs(t *testing.T) {
	plays(t,
		"text li_r1_5 > ok", "text li_r7_xabcd > ok", "text halt > ok", "load 1 0 0 > 0", "load 1 1 0 > 1", "regs 0 > "+noRegs, "run 0 2 > 1 1", "step 1 > 1",
		"regs 0 > pc=0008 r0=0000 r1=0005 r2=0000 r3=0000 r4=0000 r5=0000 r6=0000 r7=abcd", "regs 1 > pc=0004"+noRegs[7:], "regs 2 > "+noRegs, "regs 255 > "+noRegs, "regs 256 > word", "step 0 > 4", "regs 0 > "+noRegs,
	)
}

// TestP26_1Maps: by their pages, with w of those that may be written; those of one that is not, or not any more, are none.
func TestP26_1Maps(t *testing.T) {
	plays(t,
		"maps 0 > -", "frames 0 > -", "text li_r1_9 > ok", "text li_r2_1 > ok", "text sys_3 > ok", "text li_r1_0 > ok", "text sys_4 > ok", "load 3 0 0 > 0", "load 2 1 0 > 1", "maps 0 > 0:0w 1:1w 2:2w", "maps 1 > 0:3w 1:4w",
		"run 0 3 > 1 1 2", "maps 0 > 0:0w 1:1w 2:2w 9:1", "frames 0 > 0 1 2", "run 0 2 > 1 2", "maps 0 > 1:1w 2:2w 9:1", "frames 0 > 0 1 2", "frames 1 > 3 4", "frames 2 > -", "maps 2 > -", "maps 255 > -", "frames 255 > -", "maps 256 > word", "frames 256 > word",
		"run 0 2 > 3 0", "maps 0 > -", "frames 0 > -",
	)
}

// TestP26_1Revoke: a frame that is asked back is gone when its time is over; each error.
func TestP26_1Revoke(t *testing.T) {
	plays(t,
		"revoke 0 0 1 > error 5", "load 3 0 0 > 0", "load 2 1 0 > 1", "revoke 0 3 1 > error 7", "revoke 0 255 1 > error 7", "revoke 2 0 1 > error 5", "revoke 255 0 1 > error 5", "revoke 0 256 1 > word", "revoke 256 0 1 > word",
		"revoke 0 2 1001 > error 2", "revoke 0 2 9999 > error 2", "revoke 0 2 1000 > ok", "revoke 0 2 2 > error 6", "revoke 0 1 2 > ok", "frames 0 > 0 1 2", "step 1 > 1", "frames 0 > 0 1 2", "step 1 > 1", "frames 0 > 0 2", "maps 0 > 0:0w 2:2w",
		"revoke 1 3 0 > ok", "step 0 > 1", "frames 1 > 3 4", "time > 3",
	)
}

// TestP26_1Sector: extents of those that live; each error.
func TestP26_1Sector(t *testing.T) {
	plays(t,
		"sector 0 0 1 > error 5", "load 1 0 0 > 0", "load 1 1 0 > 1", "sector 0 0 0 > error 2", "sector 0 0 9 > error 2", "sector 0 9999 9999 > error 2", "sector 0 7 2 > error 2", "sector 0 2 3 > 1", "sector 1 4 1 > error 8", "sector 1 5 3 > 2",
		"sector 1 0 2 > 3", "sector 0 0 8 > error 8", "sector 2 0 1 > error 5", "sector 256 0 1 > word", "run 0 50 > 1 1 1 1 1 1 1 1 3"+strings.Repeat(" 0", 41), "sector 0 2 1 > error 5", "sector 1 2 3 > 4",
	)
}

// TestP26_1Deliver: requests of the disk, as they were taken in; each error.
func TestP26_1Deliver(t *testing.T) {
	reads := []string{"text li_r1_1 > ok", "text sys_13 > ok", "text li_r1_1 > ok", "text li_r2_1 > ok", "text sys_12 > ok", "text li_r1_0 > ok", "text sys_7 > ok"}
	plays(t, append(reads,
		"deliver 0 > error 2", "load 2 0 0 > 0", "sector 0 1 1 > 1", "run 0 5 > 1 2 1 1 2", "deliver 2 > error 2", "deliver 9999 > error 2", "deliver 1 > 2", "deliver 1 > error 2", "deliver 0 > 1", "deliver 0 > error 2", "frames 0 > 0 1",
	)...)
	plays(t, append(reads, "load 2 0 0 > 0", "sector 0 1 1 > 1", "run 0 7 > 1 2 1 1 2 1 2", "deliver 0 > error 7", "deliver 0 > error 7", "deliver 0 > error 2")...)
	plays(t, append(reads, "load 2 0 0 > 0", "run 0 5 > 1 2 1 1 2", "deliver 0 > error 2")...)
}

// TestP26_1Told: time is how many ticks there were, envs how many were made, those that ended, too.
func TestP26_1Told(t *testing.T) {
	plays(t, "time > 0", "envs > 0", "text halt > ok", "load 1 0 0 > 0", "time > 0", "envs > 1", "step 0 > 4", "time > 1", "envs > 1", "load 1 0 0 > 1", "envs > 2", "step 1 > 0", "time > 2", "sys fork 0 > ok 1", "time > 2", "time 0 > word", "envs 0 > word")
}

// TestE7Script: a script of MaxScript bytes is played, one of more is too long, whatever stands in it.
func TestE7Script(t *testing.T) {
	for _, fill := range []string{"time\n", " ", "\n", "x", "\xff", "run 0 50\n"} {
		text := strings.Repeat(fill, api.MaxScript)[:api.MaxScript]
		if got := Run(text); strings.HasPrefix(got, "long") {
			t.Errorf("%q: %q", fill, got)
		}
		for _, more := range []string{" ", "\n", "\x00", text, text + text} {
			if got := Run(text + more); got != "long\n" {
				t.Errorf("%q: %q", fill, got)
			}
		}
	}
	text := "time" + strings.Repeat(" ", api.MaxScript-len("time"))
	if got := Run(text); got != "0\n" {
		t.Error(got)
	}
	if got := Run("\n" + text[:len(text)-1]); got != "0\n" {
		t.Error(got)
	}
}

// TestP6Run: what a script left is not there for the next one.
func TestP6Run(t *testing.T) {
	text := "text halt\nsys poke 0 0 1\nsys fork 0\nsys open 0 f 1\nload 1 0 0\nstep 0\ntext x\ntime\nenvs\nsys peek 0 0\n"
	first := Run(text)
	for range 3 {
		if got := Run(text); got != first {
			t.Error(got, "not", first)
		}
	}
	plays(t, "load 1 0 0 > 0", "sys peek 0 0 > ok", "sys fork 0 > ok 1", "time > 0")
}
