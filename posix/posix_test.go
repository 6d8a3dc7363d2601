package posix

import (
	"math"
	"slices"
	"strings"
	"testing"

	"embrasure/api"
)

// each are calls of all kinds, of a process.
func each(pid int) []api.Posix {
	return []api.Posix{
		fork(pid), exit(pid, 1), wait(pid), kill(pid, 0), kill(pid, pid), poke(pid, 5, 7), peek(pid, 5), pipes(pid), open(pid, "f", 1), open(pid, "f", 0),
		read(pid, 0, 1), write(pid, 1, "x"), seek(pid, 0, 0), dup(pid, 0), shut(pid, 0), unlink(pid, "f"),
	}
}

// wrong are calls that have an error of their own beside that of the process.
func wrong(pid int) []api.Posix {
	return []api.Posix{
		{Pid: pid}, {Kind: api.Posixes, Pid: pid}, {Kind: 255, Pid: pid}, kill(pid, 9), poke(pid, -1, 0), peek(pid, 128), open(pid, "A", 0), open(pid, "none", 0),
		read(pid, 9, -1), write(pid, -1, ""), seek(pid, 8, 97), dup(pid, 8), shut(pid, -1), unlink(pid, ""),
	}
}

func TestP24_1Example(t *testing.T) {
	p := pairOf(t)
	p.ok(pipes(0), 0, "1")
	p.ok(write(0, 1, "it"), 2, "")
	p.ok(read(0, 0, 9), 0, "it")
}

// TestP24_1New: process 0 alone, its bytes 0, without descriptors and files.
func TestP24_1New(t *testing.T) {
	m := New()
	if m == nil || m == New() {
		t.Fatal("no model of its own")
	}
	if !slices.Equal(m.Running(), []int{0}) || len(m.List(0)) != 0 || len(m.Names()) != 0 {
		t.Error(m.Running(), m.List(0), m.Names())
	}
	if !slices.Equal(m.Bytes(0), make([]byte, 4*api.FrameSize)) {
		t.Error(m.Bytes(0))
	}
	for _, pid := range append(none(), 1, 5) {
		if len(m.Bytes(pid)) != 0 || len(m.List(pid)) != 0 {
			t.Error(pid, m.Bytes(pid), m.List(pid))
		}
	}
	if text, ok := m.Text("f"); text != "" || ok {
		t.Error(text, ok)
	}
}

// TestP1Nil: each call of a nil model is ErrNil, and all else is none.
func TestP1Nil(t *testing.T) {
	var m *Model
	for _, pid := range append(none(), 0, 1) {
		calls := append(each(pid), wrong(pid)...)
		for _, c := range calls {
			if got := m.Do(c); got != no(api.ErrNil) {
				t.Error(c, got)
			}
		}
		replies := m.Fold(calls)
		if len(replies) != len(calls) || slices.ContainsFunc(replies, func(r api.Reply) bool { return r != no(api.ErrNil) }) {
			t.Error(replies)
		}
		if len(m.Bytes(pid)) != 0 || len(m.List(pid)) != 0 {
			t.Error(pid)
		}
	}
	for _, label := range append(labels(), noLabels()...) {
		if text, ok := m.Text(label); text != "" || ok {
			t.Error(label, text, ok)
		}
	}
	if len(m.Fold(nil)) != 0 || len(m.Running()) != 0 || len(m.Names()) != 0 || m.Fork() != nil {
		t.Error("something of nil")
	}
}

// TestP24_1Noent: whoever does not run has ErrNoent ahead of all else: numbers that are none, one that there is not, a Zombie.
func TestP24_1Noent(t *testing.T) {
	p := pairOf(t)
	p.done(pipes(0), open(0, "f", 1), fork(0), fork(0), exit(2, 3))
	for _, pid := range append(none(), 2, 3, 5) {
		for _, c := range append(each(pid), wrong(pid)...) {
			p.no(c, api.ErrNoent)
		}
	}
	p.told("behind all")
}

// TestP24_1Runs: by a process that runs each kind is done, also by the last number.
func TestP24_1Runs(t *testing.T) {
	for pid := range 6 {
		p := pairOf(t)
		for n := range pid {
			p.ok(fork(n), n+1, "")
		}
		p.ok(poke(pid, 5, 7), 0, "")
		p.ok(peek(pid, 5), 7, "")
		p.ok(pipes(pid), 0, "1")
		p.ok(open(pid, "f", 1), 2, "")
		p.ok(write(pid, 2, "abc"), 3, "")
		p.ok(seek(pid, 2, 1), 0, "")
		p.ok(read(pid, 2, 9), 0, "bc")
		p.ok(dup(pid, 2), 3, "")
		p.ok(shut(pid, 2), 0, "")
		p.ok(unlink(pid, "f"), 0, "")
		if pid < 5 {
			p.ok(fork(pid), pid+1, "")
			p.ok(kill(pid, pid+1), 0, "")
			p.ok(wait(pid), pid+1, "137")
		}
		p.told("behind each kind")
		if pid > 0 {
			p.ok(exit(pid, 4), 0, "")
			p.told("behind its end")
			p.ok(wait(pid-1), pid, "4")
		}
	}
}

// TestP24_1NoKind: a kind that is none is ErrRange, whatever else the call says.
func TestP24_1NoKind(t *testing.T) {
	p := pairOf(t)
	p.done(open(0, "f", 1))
	for _, k := range []api.PosixKind{api.NoPosix, api.Posixes, 16, 17, 127, 128, 255} {
		for _, n := range []int{0, -1, 200} {
			p.no(api.Posix{Kind: k, N: n, M: n, Text: "f"}, api.ErrRange)
		}
	}
	p.told("behind all")
}

// TestP24_1Fork: the least number that is none, with the parent's bytes and descriptors.
func TestP24_1Fork(t *testing.T) {
	p := pairOf(t)
	p.done(poke(0, 0, 1), poke(0, 127, 2), pipes(0), open(0, "f", 1), shut(0, 0))
	p.ok(fork(0), 1, "")
	if !slices.Equal(p.m.Bytes(1), p.m.Bytes(0)) || !slices.Equal(p.m.List(1), []int{1, 2}) {
		t.Error(p.m.Bytes(1), p.m.List(1))
	}
	p.ok(fork(1), 2, "")
	p.ok(fork(0), 3, "")
	p.ok(fork(0), 4, "")
	p.done(exit(2, 0))
	p.ok(fork(0), 5, "")
	p.no(fork(0), api.ErrAgain)
	p.no(fork(5), api.ErrAgain)
	p.told("with as many as may be")
	p.done(wait(1))
	p.ok(fork(4), 2, "")
	p.no(fork(1), api.ErrAgain)
	p.told("behind all")
}

// TestP24_1Statuses: a status is told modulo 256, in digits without noughts ahead.
func TestP24_1Statuses(t *testing.T) {
	for _, c := range []struct {
		n    int
		text string
	}{
		{0, "0"}, {1, "1"}, {9, "9"}, {10, "10"}, {137, "137"}, {255, "255"}, {256, "0"}, {257, "1"}, {300, "44"}, {511, "255"}, {512, "0"},
		{-1, "255"}, {-2, "254"}, {-255, "1"}, {-256, "0"}, {-257, "255"}, {1 << 32, "0"}, {-1<<32 - 1, "255"}, {math.MaxInt, "255"}, {math.MinInt, "0"},
	} {
		p := pairOf(t)
		p.done(fork(0))
		p.ok(exit(1, c.n), 0, "")
		p.told("a Zombie")
		p.ok(wait(0), 1, c.text)
	}
}

// TestP24_1Exit: 0 does not end; of what ends nothing is told any more, and its children are 0's.
func TestP24_1Exit(t *testing.T) {
	p := pairOf(t)
	p.no(exit(0, 1), api.ErrPerm)
	p.done(open(0, "f", 1), fork(0), fork(1), fork(1), poke(1, 3, 9), exit(3, 33))
	p.no(exit(0, 1), api.ErrPerm)
	p.ok(exit(1, 11), 0, "")
	if len(p.m.Bytes(1)) != 0 || len(p.m.List(1)) != 0 || !slices.Equal(p.m.Running(), []int{0, 2}) {
		t.Error(p.m.Bytes(1), p.m.List(1), p.m.Running())
	}
	p.told("behind an end")
	p.no(exit(1, 11), api.ErrNoent)
	p.ok(wait(0), 1, "11")
	p.ok(wait(0), 3, "33")
	p.no(wait(0), api.ErrAgain)
	p.done(exit(2, 22))
	p.ok(wait(0), 2, "22")
	p.no(wait(0), api.ErrForm)
}

// TestP24_1Wait: ErrForm without a child, ErrAgain while all run, and the least Zombie, once.
func TestP24_1Wait(t *testing.T) {
	p := pairOf(t)
	p.no(wait(0), api.ErrForm)
	p.done(fork(0), fork(0), fork(0), fork(2))
	p.no(wait(0), api.ErrAgain)
	p.no(wait(1), api.ErrForm)
	p.no(wait(2), api.ErrAgain)
	p.done(exit(3, 300), exit(1, 0))
	p.no(wait(2), api.ErrAgain)
	p.ok(wait(0), 1, "0")
	p.ok(wait(0), 3, "44")
	p.no(wait(0), api.ErrAgain)
	p.done(kill(0, 4))
	p.no(wait(0), api.ErrAgain)
	p.ok(wait(2), 4, "137")
	p.no(wait(2), api.ErrForm)
	p.told("behind all")
}

// TestP24_1Kill: anybody kills anybody that runs but 0: its child, its parent, itself.
func TestP24_1Kill(t *testing.T) {
	p := pairOf(t)
	p.done(open(0, "f", 1), fork(0), fork(1), fork(0), fork(0), exit(4, 1))
	for _, n := range append(none(), 4, 5) {
		p.no(kill(0, n), api.ErrNoent)
		p.no(kill(2, n), api.ErrNoent)
	}
	p.no(kill(0, 0), api.ErrPerm)
	p.no(kill(2, 0), api.ErrPerm)
	p.ok(kill(2, 1), 0, "")
	p.told("a parent")
	p.no(kill(2, 1), api.ErrNoent)
	p.ok(kill(3, 3), 0, "")
	p.told("itself")
	p.no(kill(3, 3), api.ErrNoent)
	p.ok(kill(0, 2), 0, "")
	if !slices.Equal(p.m.Running(), []int{0}) || len(p.m.List(2)) != 0 || len(p.m.Bytes(2)) != 0 {
		t.Error(p.m.Running(), p.m.List(2), p.m.Bytes(2))
	}
	for _, c := range []struct {
		child int
		text  string
	}{{1, "137"}, {2, "137"}, {3, "137"}, {4, "1"}} {
		p.ok(wait(0), c.child, c.text)
	}
	p.told("behind all")
}

// TestP24_1Bytes: addresses from 0 to the last one; bytes modulo 256.
func TestP24_1Bytes(t *testing.T) {
	p := pairOf(t)
	for _, at := range []int{-1, 128, 129, -128, 255, 256, 512, -256, 1 << 32, -1 << 32, math.MaxInt, math.MinInt} {
		p.no(poke(0, at, 1), api.ErrFault)
		p.no(peek(0, at), api.ErrFault)
	}
	for _, at := range []int{0, 1, 31, 32, 63, 64, 95, 96, 126, 127} {
		for _, c := range [][2]int{{0, 0}, {1, 1}, {255, 255}, {256, 0}, {257, 1}, {-1, 255}, {-256, 0}, {-257, 255}, {math.MaxInt, 255}, {math.MinInt, 0}, {at + 1, at + 1}} {
			p.ok(poke(0, at, c[0]), 0, "")
			p.ok(peek(0, at), c[1], "")
		}
		p.told("behind a byte")
	}
	for at := range 128 {
		p.ok(poke(0, at, 3*at), 0, "")
	}
	for at := range 128 {
		p.ok(peek(0, at), 3*at%256, "")
	}
	p.told("all bytes")
}

// TestP24_3Apart: what a child does to its bytes its parent does not see, and the other way round.
func TestP24_3Apart(t *testing.T) {
	p := pairOf(t)
	p.done(poke(0, 5, 7), poke(0, 100, 8), fork(0))
	p.ok(peek(1, 5), 7, "")
	p.done(poke(1, 5, 70))
	p.ok(peek(0, 5), 7, "")
	p.done(poke(0, 100, 80))
	p.ok(peek(1, 100), 8, "")
	p.done(fork(1), poke(2, 5, 71), poke(1, 6, 1))
	p.ok(peek(1, 5), 70, "")
	p.ok(peek(2, 6), 0, "")
	p.told("three of them")
	p.done(exit(1, 0))
	p.ok(peek(2, 5), 71, "")
	p.ok(peek(2, 100), 8, "")
	p.told("two of them")
}

// TestE4GivenAgain: a number that is given again has nothing of who had it.
func TestE4GivenAgain(t *testing.T) {
	p := pairOf(t)
	p.done(fork(0), poke(1, 9, 9), open(1, "f", 1), pipes(1), exit(1, 9))
	p.ok(wait(0), 1, "9")
	p.ok(fork(0), 1, "")
	p.ok(peek(1, 9), 0, "")
	if len(p.m.List(1)) != 0 {
		t.Error(p.m.List(1))
	}
	p.told("given again")
}

// TestE4NothingLeft: when all that was made is gone, all is as at first.
func TestE4NothingLeft(t *testing.T) {
	p := pairOf(t)
	p.done(fork(0), poke(1, 9, 9), pipes(1), open(1, "f", 1), write(1, 2, "text"), seek(1, 2, 1), write(1, 1, "in it"), unlink(0, "f"), fork(1))
	p.done(exit(1, 3), kill(2, 2), wait(0), wait(0))
	if !alike(p.m, New()) {
		t.Error("something is left", p.m)
	}
	p.done(pipes(0), open(0, "f", 1), write(0, 2, "text"), write(0, 1, "in it"), shut(0, 0), shut(0, 2), shut(0, 1), unlink(0, "f"))
	if !alike(p.m, New()) {
		t.Error("something is left", p.m)
	}
}

// TestP24_1Fold: Do of each, one behind the other, with those that are refused.
func TestP24_1Fold(t *testing.T) {
	calls := append(append(each(0), wrong(0)...), pipes(0), fork(0), write(1, 1, "hey"), read(0, 0, 2), exit(1, 300), wait(0))
	kept := append(slices.Clone(calls), api.Posix{Kind: api.ForkIt, Text: "spare"})
	handed := slices.Clone(kept)
	one, other := New(), New()
	got := one.Fold(handed[:len(calls)])
	if !slices.Equal(handed, kept) {
		t.Error("what was handed in has changed")
	}
	var want []api.Reply
	for _, c := range calls {
		want = append(want, other.Do(c))
	}
	if !slices.Equal(got, want) || !alike(one, other) {
		t.Error(got, "not", want)
	}
	if len(one.Fold(nil)) != 0 || len(one.Fold([]api.Posix{})) != 0 || !alike(one, other) {
		t.Error("of nothing")
	}
}

// TestP3HandedOut: what was answered is the caller's.
func TestP3HandedOut(t *testing.T) {
	p := pairOf(t)
	p.done(poke(0, 1, 1), pipes(0), open(0, "f", 1), open(0, "a", 1), fork(0))
	bytes, list, running, names := p.m.Bytes(0), p.m.List(0), p.m.Running(), p.m.Names()
	bytes, list, running, names = bytes[:cap(bytes)], list[:cap(list)], running[:cap(running)], names[:cap(names)]
	for n := range bytes {
		bytes[n] = 99
	}
	for n := range list {
		list[n] = 99
	}
	for n := range running {
		running[n] = 99
	}
	for n := range names {
		names[n] = "q"
	}
	p.told("behind a change of what was answered")
	older := p.m.Bytes(0)
	p.done(poke(0, 1, 55))
	if older[1] != 1 {
		t.Error("older bytes have changed")
	}
	replies := p.m.Fold([]api.Posix{peek(0, 1), peek(0, 2)})
	again := p.m.Fold([]api.Posix{peek(0, 1), peek(0, 2)})
	replies[0].N = 1000
	if again[0].N != 55 {
		t.Error(again)
	}
}

// TestP24_2Told: what is told of what there is, and of what there is not.
func TestP24_2Told(t *testing.T) {
	p := pairOf(t)
	p.done(open(0, "zz", 1), open(0, "f", 1), open(0, "β", 1), open(0, "0", 1), write(0, 1, "text"), shut(0, 1), fork(0), fork(0), exit(1, 0))
	if got := p.m.Names(); !slices.Equal(got, []string{"0", "f", "zz", "β"}) {
		t.Error(got)
	}
	for _, c := range []struct {
		label, text string
		ok          bool
	}{{"f", "text", true}, {"zz", "", true}, {"a", "", false}, {"", "", false}, {"F", "", false}, {strings.Repeat("f", 99), "", false}} {
		if text, ok := p.m.Text(c.label); text != c.text || ok != c.ok {
			t.Errorf("%q %q %t", c.label, text, ok)
		}
	}
	if !slices.Equal(p.m.List(0), []int{0, 2, 3}) || !slices.Equal(p.m.List(2), []int{0, 2, 3}) || len(p.m.List(1)) != 0 || len(p.m.List(3)) != 0 {
		t.Error(p.m.List(0), p.m.List(1), p.m.List(2))
	}
	if !slices.Equal(p.m.Running(), []int{0, 2}) || len(p.m.Bytes(2)) != 128 || len(p.m.Bytes(1)) != 0 {
		t.Error(p.m.Running())
	}
	p.told("all of it")
}
