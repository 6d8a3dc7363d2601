package libos

import (
	"fmt"
	"math"
	"slices"
	"strings"
	"testing"

	"embrasure/api"
	"embrasure/posix"
)

// chances is a row of numbers that looks like chance, and is the same for the same seed.
func chances(seed uint32) func(int) int {
	return func(n int) int {
		seed = seed*1664525 + 1013904223
		return int(seed>>8) % n
	}
}

// oneOf is one of a list, by chance.
func oneOf[T any](chance func(int) int, l []T) T {
	return l[chance(len(l))]
}

// random is a call by chance, seldom a wrong one.
func random(chance func(int) int) api.Posix {
	kinds := []api.PosixKind{
		api.ForkIt, api.ForkIt, api.ExitIt, api.WaitIt, api.KillIt, api.PokeIt, api.PokeIt, api.PokeIt, api.PokeIt, api.PeekIt, api.PipeIt, api.OpenIt, api.OpenIt, api.OpenIt,
		api.ReadIt, api.ReadIt, api.ReadIt, api.WriteIt, api.WriteIt, api.WriteIt, api.WriteIt, api.SeekIt, api.DupIt, api.CloseIt, api.CloseIt, api.UnlinkIt,
	}
	c := api.Posix{Kind: oneOf(chance, kinds), Pid: chance(4), N: chance(130) - 1, M: chance(9)}
	switch c.Kind {
	case api.OpenIt, api.UnlinkIt:
		c.Text, c.M = oneOf(chance, labels()), chance(3)
	case api.WriteIt:
		c.Text = strings.Repeat(string(rune('a'+chance(26))), chance(13))
		if chance(3) == 0 {
			c.Text = strings.Repeat("long ", chance(21))
		}
	case api.ReadIt:
		c.N = chance(12)
	case api.KillIt:
		c.N = chance(6)
	case api.SeekIt:
		c.N = chance(30)
	}
	odd(&c, chance)
	return c
}

// odd lets a call be a strange one now and then.
func odd(c *api.Posix, chance func(int) int) {
	switch chance(60) {
	case 0:
		c.Pid = oneOf(chance, noProcs())
	case 1:
		c.M = oneOf(chance, noFds())
	case 2:
		c.N = oneOf(chance, []int{-1, 96, 97, 127, 128, 255, 256, math.MinInt, math.MaxInt})
	case 3:
		c.Kind = api.PosixKind(chance(256))
	case 4:
		c.Text = oneOf(chance, noLabels())
	case 5, 6:
		c.Pid = 4 + chance(2)
	}
}

// TestP25_3AnyOrder: in any order of calls each reply is that of posix, of the calls that had no ErrSpace of frames and sectors until then, and that comes where there is no room.
func TestP25_3AnyOrder(t *testing.T) {
	seen := map[string]int{}
	for seed := range uint32(100) {
		chance := chances(seed)
		p := pairOf(t, 1+chance(12), 1+chance(9))
		for n := range 500 {
			c := random(chance)
			seen[fmt.Sprint(c.Kind, p.do(c).Errno)]++
			if n%10 == 0 {
				p.told("any order")
			}
		}
		p.told("all of it")
	}
	cameAbout(t, seen)
}

// cameAbout holds that the play has come to each answer that there can be, so that it stands for them.
func cameAbout(t *testing.T, seen map[string]int) {
	t.Helper()
	for kind, l := range map[api.PosixKind][]api.Errno{
		api.NoPosix:  {api.ErrRange},
		api.ForkIt:   {api.OK, api.ErrNoent, api.ErrAgain},
		api.ExitIt:   {api.OK, api.ErrNoent, api.ErrPerm},
		api.WaitIt:   {api.OK, api.ErrNoent, api.ErrForm, api.ErrAgain},
		api.KillIt:   {api.OK, api.ErrNoent, api.ErrPerm},
		api.PokeIt:   {api.OK, api.ErrNoent, api.ErrFault, api.ErrSpace},
		api.PeekIt:   {api.OK, api.ErrNoent, api.ErrFault},
		api.PipeIt:   {api.OK, api.ErrNoent, api.ErrQuota},
		api.OpenIt:   {api.OK, api.ErrNoent, api.ErrForm, api.ErrQuota, api.ErrSpace},
		api.ReadIt:   {api.OK, api.ErrNoent, api.ErrForm, api.ErrRange, api.ErrState, api.ErrAgain},
		api.WriteIt:  {api.OK, api.ErrNoent, api.ErrForm, api.ErrRange, api.ErrState, api.ErrAgain, api.ErrSpace},
		api.SeekIt:   {api.OK, api.ErrNoent, api.ErrForm, api.ErrState, api.ErrRange},
		api.DupIt:    {api.OK, api.ErrNoent, api.ErrForm, api.ErrQuota},
		api.CloseIt:  {api.OK, api.ErrNoent, api.ErrForm},
		api.UnlinkIt: {api.OK, api.ErrNoent},
	} {
		for _, e := range l {
			if seen[fmt.Sprint(kind, e)] == 0 {
				t.Error("kind", kind, "never answered", e)
			}
		}
	}
}

// TestP25_4AnyOrder: with 4 times MaxProcs frames and MaxFiles times 3 sectors a library answers as posix in any order of calls.
func TestP25_4AnyOrder(t *testing.T) {
	for seed := range uint32(40) {
		chance := chances(seed + 500)
		l, want := New(4*api.MaxProcs, 3*api.MaxFiles), posix.New()
		for range 800 {
			c := random(chance)
			if got, w := l.Do(c), want.Do(c); got != w {
				t.Fatal(c, got, "not", w)
			}
		}
		for pid := range 6 {
			if !slices.Equal(l.Bytes(pid), want.Bytes(pid)) || !slices.Equal(l.List(pid), want.List(pid)) {
				t.Fatal(pid, l.Bytes(pid), want.Bytes(pid))
			}
		}
	}
}

// TestE4AllFree: when all processes but 0 have ended, and 0 has nothing, all is free but for what 0 wrote to its bytes.
func TestE4AllFree(t *testing.T) {
	for seed := range uint32(60) {
		chance := chances(seed + 900)
		p := pairOf(t, 12, 8)
		for range 300 {
			p.do(random(chance))
		}
		for _, pid := range p.l.Running()[1:] {
			p.done(kill(0, pid))
		}
		for _, fd := range p.l.List(0) {
			p.done(shut(0, fd))
		}
		for _, name := range p.l.Names() {
			p.done(unlink(0, name))
		}
		p.told("all have ended")
		if p.l.Sectors() != 8 || p.l.Frames() < 8 {
			t.Error(p.l.Sectors(), p.l.Frames())
		}
	}
}

// TestP4Fork: what becomes of the one changes nothing of the other one.
func TestP4Fork(t *testing.T) {
	p := pairOf(t, 6, 4)
	p.done(poke(0, 1, 1), pipes(0), open(0, "f", 1), write(0, 2, "hello"), write(0, 1, "pipe"), fork(0), fork(1), exit(2, 5), poke(1, 2, 2), poke(0, 70, 1))
	q := p.copied()
	if q.l == nil || q.l == p.l {
		t.Fatal("no other one")
	}
	q.told("the fork")
	for _, c := range []api.Posix{
		poke(1, 1, 9), poke(0, 40, 1), poke(1, 70, 3), seek(0, 2, 1), read(1, 2, 2), write(1, 2, "J"), read(0, 0, 1), write(0, 1, "s"), dup(0, 2), write(1, 2, strings.Repeat("y", 40)),
		open(1, "a", 1), write(1, 3, "a"), unlink(0, "f"), fork(0), shut(0, 0), shut(1, 1), wait(1), kill(0, 1), wait(0), shut(0, 2), pipes(0),
	} {
		a, b := q.copied(), q.copied()
		a.do(c)
		b.told("beside the first one")
		b.do(c)
		a.told("the first one")
		b.told("the second one")
		q.do(c)
		a.told("beside the one it came of")
		p.told("the one at first")
	}
}

// TestP4ForksPlay: forks of forks go on their own ways.
func TestP4ForksPlay(t *testing.T) {
	for seed := range uint32(30) {
		chance := chances(seed + 1000)
		all := []*pair{pairOf(t, 5, 5)}
		for range 600 {
			p := all[chance(len(all))]
			p.do(random(chance))
			if len(all) < 5 && chance(30) == 0 {
				all = append(all, p.copied())
			}
		}
		for _, p := range all {
			p.told("behind all")
		}
	}
}

// TestP1Hostile: every kind, at numbers and texts of all kinds, answers as it is told.
func TestP1Hostile(t *testing.T) {
	numbers := []int{0, 1, -1, 5, 7, 8, 96, 97, 127, 128, 256, -256, 1 << 32, math.MinInt, math.MaxInt}
	texts := append(noLabels(), "f", strings.Repeat("\xff", 97), strings.Repeat("a", 1<<16))
	for _, pid := range []int{0, 1, -1, 6, math.MinInt, math.MaxInt} {
		p := pairOf(t, 2, 2)
		p.done(fork(0), pipes(0), open(0, "f", 1))
		for kind := range 256 {
			for _, n := range numbers {
				for _, m := range numbers {
					c := api.Posix{Kind: api.PosixKind(kind), Pid: pid, N: n, M: m, Text: texts[(n&7+m&7+kind)%len(texts)]}
					if kind < 20 || n == m {
						p.do(c)
					}
				}
			}
		}
		p.told("hostile")
	}
}

// TestP6Alike: the same calls answer the same, whatever else was done ahead of them.
func TestP6Alike(t *testing.T) {
	run := func() []api.Reply {
		chance := chances(5)
		var l []api.Posix
		for range 1000 {
			l = append(l, random(chance))
		}
		return New(8, 6).Fold(l)
	}
	if !slices.Equal(run(), run()) {
		t.Error("not alike")
	}
}

// TestE7Limits: never more processes, descriptors, files, bytes, frames and sectors than there may be.
func TestE7Limits(t *testing.T) {
	for seed := range uint32(30) {
		chance := chances(seed + 3000)
		l := New(3, 2)
		for range 600 {
			l.Do(random(chance))
			if len(l.Running()) > api.MaxProcs || len(l.Names()) > api.MaxFiles {
				t.Fatal(l.Running(), l.Names())
			}
			if l.Frames() < 0 || l.Frames() > 3 || l.Sectors() < 0 || l.Sectors() > 2 {
				t.Fatal(l.Frames(), l.Sectors())
			}
			for pid := range api.MaxProcs {
				if len(l.List(pid)) > api.MaxFds {
					t.Fatal(l.List(pid))
				}
			}
			for _, label := range l.Names() {
				if text, ok := l.Text(label); !ok || len(text) > api.MaxFile {
					t.Fatal(label, text, ok)
				}
			}
		}
	}
}
