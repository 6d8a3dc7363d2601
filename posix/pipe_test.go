package posix

import (
	"math"
	"slices"
	"strings"
	"testing"

	"embrasure/api"
)

// withPipe is a pair whose process 0 has a pipe: 0 reads, 1 writes.
func withPipe(t *testing.T) *pair {
	t.Helper()
	p := pairOf(t)
	p.ok(pipes(0), 0, "1")
	return p
}

// TestP24_1Pipe: the least descriptor reads, the next one writes, also where there are gaps.
func TestP24_1Pipe(t *testing.T) {
	p := pairOf(t)
	p.ok(pipes(0), 0, "1")
	p.ok(pipes(0), 2, "3")
	p.ok(pipes(0), 4, "5")
	p.done(shut(0, 1), shut(0, 4))
	p.ok(pipes(0), 1, "4")
	p.ok(write(0, 4, "ab"), 2, "")
	p.ok(read(0, 1, 9), 0, "ab")
	p.no(read(0, 4, 9), api.ErrState)
	p.no(write(0, 1, "x"), api.ErrState)
	p.ok(pipes(0), 6, "7")
	p.told("all descriptors")
}

// TestP24_1PipeRoom: with room for two, for one and for none.
func TestP24_1PipeRoom(t *testing.T) {
	p := pairOf(t)
	for n := range 6 {
		p.ok(open(0, "f", 1), n, "")
	}
	q := p.copied()
	q.ok(pipes(0), 6, "7")
	q.no(pipes(0), api.ErrQuota)
	q.done(shut(0, 3))
	q.no(pipes(0), api.ErrQuota)
	p.done(dup(0, 0))
	p.no(pipes(0), api.ErrQuota)
	if !slices.Equal(p.m.List(0), []int{0, 1, 2, 3, 4, 5, 6}) {
		t.Error(p.m.List(0))
	}
	p.done(shut(0, 2), shut(0, 5))
	p.ok(pipes(0), 2, "5")
	p.told("behind all")
	q.told("the other one")
}

// TestP24_1PipeApart: pipes do not hang on each other.
func TestP24_1PipeApart(t *testing.T) {
	p := pairOf(t)
	p.done(pipes(0), pipes(0), pipes(0))
	for n, text := range []string{"one", "two", "three"} {
		p.ok(write(0, 2*n+1, text), len(text), "")
	}
	p.done(shut(0, 3))
	p.ok(read(0, 2, 9), 0, "two")
	p.ok(read(0, 2, 9), 0, "")
	p.ok(read(0, 4, 9), 0, "three")
	p.no(read(0, 4, 9), api.ErrAgain)
	p.ok(read(0, 0, 9), 0, "one")
}

// TestP24_1PipeRead: what went in comes out in order; of an empty one ErrAgain, until nobody can write; nothing of 0.
func TestP24_1PipeRead(t *testing.T) {
	p := withPipe(t)
	p.no(read(0, 0, 1), api.ErrAgain)
	p.no(read(0, 0, math.MaxInt), api.ErrAgain)
	p.ok(read(0, 0, 0), 0, "")
	p.done(write(0, 1, "hello"), write(0, 1, " you"))
	for _, n := range []int{-1, -2, math.MinInt} {
		p.no(read(0, 0, n), api.ErrRange)
		p.no(read(0, 1, n), api.ErrState)
	}
	p.no(read(0, 1, 1), api.ErrState)
	p.no(read(0, 1, 0), api.ErrState)
	p.ok(read(0, 0, 0), 0, "")
	p.ok(read(0, 0, 7), 0, "hello y")
	p.ok(read(0, 0, 7), 0, "ou")
	p.no(read(0, 0, 7), api.ErrAgain)
	p.done(write(0, 1, "last"), shut(0, 1))
	p.ok(read(0, 0, 3), 0, "las")
	p.ok(read(0, 0, 3), 0, "t")
	p.ok(read(0, 0, 3), 0, "")
	p.ok(read(0, 0, math.MaxInt), 0, "")
	p.ok(read(0, 0, 0), 0, "")
	p.no(read(0, 0, -1), api.ErrRange)
}

// TestP24_1PipeWrite: few bytes whole or not at all, many as far as there is room; of the wrong end ErrState.
func TestP24_1PipeWrite(t *testing.T) {
	p := withPipe(t)
	p.no(write(0, 0, "x"), api.ErrState)
	p.no(write(0, 0, ""), api.ErrState)
	p.ok(write(0, 1, ""), 0, "")
	p.ok(write(0, 1, strings.Repeat("a", 17)), 17, "")
	p.no(write(0, 1, strings.Repeat("b", 8)), api.ErrAgain)
	p.ok(write(0, 1, strings.Repeat("c", 7)), 7, "")
	p.no(write(0, 1, "d"), api.ErrAgain)
	p.no(write(0, 1, strings.Repeat("d", 100)), api.ErrAgain)
	p.ok(write(0, 1, ""), 0, "")
	p.ok(read(0, 0, 3), 0, "aaa")
	p.no(write(0, 1, strings.Repeat("e", 4)), api.ErrAgain)
	p.ok(write(0, 1, strings.Repeat("f", 9)), 3, "")
	p.ok(read(0, 0, 99), 0, strings.Repeat("a", 14)+"cccccccfff")
	p.ok(write(0, 1, strings.Repeat("g", 25)), 24, "")
	p.ok(read(0, 0, 16), 0, strings.Repeat("g", 16))
	p.ok(write(0, 1, "12345678"), 8, "")
	p.ok(read(0, 0, 24), 0, strings.Repeat("g", 8)+"12345678")
	p.ok(write(0, 1, "\x00\xff\nä"), 5, "")
	p.ok(read(0, 0, 9), 0, "\x00\xff\nä")
}

// TestP24_1PipeNobodyReads: whoever writes when nobody can read has ErrState, also of nothing and of a full one.
func TestP24_1PipeNobodyReads(t *testing.T) {
	for _, held := range []string{"", "abc", strings.Repeat("a", 24)} {
		p := withPipe(t)
		p.done(write(0, 1, held), shut(0, 0))
		p.no(write(0, 1, "x"), api.ErrState)
		p.no(write(0, 1, ""), api.ErrState)
		p.no(write(0, 1, strings.Repeat("x", 30)), api.ErrState)
		p.no(read(0, 1, 1), api.ErrState)
		p.told("nobody reads")
	}
}

// TestP24_1PipeSeek: a pipe stands nowhere, whichever end and place.
func TestP24_1PipeSeek(t *testing.T) {
	p := withPipe(t)
	for _, at := range []int{0, 1, -1, 96, 97, math.MinInt} {
		p.no(seek(0, 0, at), api.ErrState)
		p.no(seek(0, 1, at), api.ErrState)
	}
}

// TestP24_1PipeDup: an end is open as long as one has it, by any descriptor.
func TestP24_1PipeDup(t *testing.T) {
	p := withPipe(t)
	p.ok(dup(0, 1), 2, "")
	p.ok(dup(0, 0), 3, "")
	p.done(shut(0, 1), write(0, 2, "ab"), shut(0, 0))
	p.ok(read(0, 3, 9), 0, "ab")
	p.no(read(0, 3, 9), api.ErrAgain)
	p.done(shut(0, 2))
	p.ok(read(0, 3, 9), 0, "")
	p.told("behind all")
}

// TestP24_1SharedPipe: a pipe between parent and child; its ends are closed when the last one exits, or is killed.
func TestP24_1SharedPipe(t *testing.T) {
	for _, end := range []api.Posix{exit(1, 0), kill(0, 1), kill(1, 1), shut(1, 1)} {
		p := withPipe(t)
		p.done(fork(0), shut(0, 1))
		p.no(read(0, 0, 9), api.ErrAgain)
		p.ok(write(1, 1, "hey"), 3, "")
		p.ok(read(0, 0, 2), 0, "he")
		p.done(end)
		p.ok(read(0, 0, 2), 0, "y")
		p.ok(read(0, 0, 2), 0, "")
		p.told("the writer is gone")
	}
	for _, end := range []api.Posix{exit(1, 0), kill(0, 1), kill(1, 1), shut(1, 0)} {
		p := withPipe(t)
		p.done(fork(0), shut(0, 0))
		p.ok(write(0, 1, "hey"), 3, "")
		p.done(end)
		p.no(write(0, 1, "x"), api.ErrState)
		p.told("the reader is gone")
	}
}

// TestP24_1PipeOfThree: one of several that has an end ends, and the others have it still.
func TestP24_1PipeOfThree(t *testing.T) {
	p := withPipe(t)
	p.done(fork(0), fork(1), shut(0, 1), exit(1, 0))
	p.no(read(0, 0, 1), api.ErrAgain)
	p.ok(write(2, 1, "a"), 1, "")
	p.ok(read(2, 0, 1), 0, "a")
	p.done(kill(0, 2))
	p.ok(read(0, 0, 1), 0, "")
	p.told("behind all")
}

// TestE4PipeGivenAgain: a new pipe is empty, whatever was in one that is gone.
func TestE4PipeGivenAgain(t *testing.T) {
	for _, first := range []int{0, 1} {
		p := withPipe(t)
		p.done(write(0, 1, "left in it"), shut(0, first), shut(0, 1-first))
		p.ok(pipes(0), 0, "1")
		p.no(read(0, 0, 9), api.ErrAgain)
		p.ok(write(0, 1, strings.Repeat("x", 24)), 24, "")
		p.ok(read(0, 0, 99), 0, strings.Repeat("x", 24))
	}
}

// TestE7ManyPipes: as many pipes as descriptors let there be, each with its own bytes.
func TestE7ManyPipes(t *testing.T) {
	p := pairOf(t)
	for pid := range 6 {
		if pid > 0 {
			p.ok(fork(0), pid, "")
			for _, fd := range p.m.List(pid) {
				p.done(shut(pid, fd))
			}
		}
		for n := range 7 {
			p.ok(pipes(pid), n, string(rune('1'+n)))
			p.done(write(pid, n+1, string(rune('a'+7*pid%26+n))))
			p.done(shut(pid, n+1))
		}
		p.no(pipes(pid), api.ErrQuota)
	}
	for pid := range 6 {
		for n := range 7 {
			p.ok(read(pid, n, 9), 0, string(rune('a'+7*pid%26+n)))
		}
	}
	p.told("all pipes")
}
