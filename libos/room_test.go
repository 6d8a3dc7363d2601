package libos

import (
	"math"
	"strings"
	"testing"

	"embrasure/api"
)

// TestP25_1Poke: with no frame free a page that is written for the first time, and one that is shared, are ErrSpace; one's own is written.
func TestP25_1Poke(t *testing.T) {
	p := pairOf(t, 2, 1)
	p.ok(poke(0, 0, 1), 0, "")
	p.ok(poke(0, 31, 2), 0, "")
	p.has(1, 1, 0)
	p.done(fork(0))
	p.ok(poke(0, 32, 3), 0, "")
	p.has(0, 1, 0)
	p.no(poke(0, 64, 1), api.ErrSpace)
	p.no(poke(0, 64, 0), api.ErrSpace)
	p.no(poke(1, 32, 9), api.ErrSpace)
	p.no(poke(0, 5, 9), api.ErrSpace)
	p.no(poke(1, 31, 2), api.ErrSpace)
	p.ok(poke(0, 63, 4), 0, "")
	p.told("with no frame free")
	for at, want := range map[int]int{0: 1, 5: 0, 31: 2, 32: 3, 63: 4, 64: 0} {
		p.ok(peek(0, at), want, "")
	}
	p.ok(peek(1, 32), 0, "")
	p.done(exit(1, 0))
	p.ok(poke(0, 5, 9), 0, "")
	p.no(poke(0, 64, 1), api.ErrSpace)
	p.has(0, 1, 0)
	p.told("alone again")
}

// TestP25_1Fault: an address that is none is a fault, also with no frame free, and with a number that only a space has.
func TestP25_1Fault(t *testing.T) {
	p := pairOf(t, 1, 1)
	for range 2 {
		for _, at := range noAddresses() {
			p.no(poke(0, at, 1), api.ErrFault)
			p.no(peek(0, at), api.ErrFault)
		}
		p.done(poke(0, 0, 1))
	}
	p.has(0, 1, 0)
	for _, b := range []int{0, 255, 256, -1, -256, -257, 1 << 32, math.MinInt, math.MaxInt} {
		p.ok(poke(0, 9, b), 0, "")
		p.ok(peek(0, 9), int(byte(b)), "")
	}
}

// TestP25_1Write: ErrSpace of a text that needs one sector more than are free; neither file nor position has moved then.
func TestP25_1Write(t *testing.T) {
	p := pairOf(t, 1, 2)
	p.done(open(0, "f", 1))
	p.ok(write(0, 0, strings.Repeat("f", 20)), 20, "")
	p.has(1, 1, 0)
	p.no(write(0, 0, strings.Repeat("x", 45)), api.ErrSpace)
	p.told("one byte too many")
	p.ok(read(0, 0, 9), 0, "")
	p.ok(write(0, 0, strings.Repeat("g", 12)), 12, "")
	p.has(1, 1, 0)
	p.done(open(0, "a", 1))
	p.ok(write(0, 1, strings.Repeat("a", 32)), 32, "")
	p.has(1, 0, 0)
	for _, fd := range []int{0, 1} {
		p.no(write(0, fd, "x"), api.ErrSpace)
		p.no(write(0, fd, strings.Repeat("x", 64)), api.ErrSpace)
		p.no(write(0, fd, strings.Repeat("x", 65)), api.ErrRange)
		p.ok(write(0, fd, ""), 0, "")
	}
	p.done(seek(0, 0, 10))
	p.no(write(0, 0, strings.Repeat("x", 23)), api.ErrSpace)
	p.ok(read(0, 0, 11), 0, strings.Repeat("f", 10)+"g")
	p.done(seek(0, 0, 10))
	p.ok(write(0, 0, strings.Repeat("y", 22)), 22, "")
	p.told("over what is there")
	p.done(seek(0, 0, 0))
	p.ok(read(0, 0, 99), 0, strings.Repeat("f", 10)+strings.Repeat("y", 22))
	p.done(seek(0, 1, 33))
	p.no(write(0, 1, "x"), api.ErrRange)
	p.no(write(0, 1, ""), api.ErrRange)
}

// TestP25_1WriteNothing: without a sector free nothing can be written, to a file without bytes, too.
func TestP25_1WriteNothing(t *testing.T) {
	p := pairOf(t, 1, 1)
	p.done(open(0, "f", 1), write(0, 0, "x"), open(0, "a", 1))
	p.no(write(0, 1, "x"), api.ErrSpace)
	p.ok(write(0, 1, ""), 0, "")
	p.ok(write(0, 0, strings.Repeat("y", 31)), 31, "")
	p.no(write(0, 0, "z"), api.ErrSpace)
	p.ok(write(0, 0, ""), 0, "")
	p.told("behind all")
	p.done(shut(0, 0), unlink(0, "f"))
	p.has(1, 1, 0)
	p.ok(write(0, 1, strings.Repeat("z", 32)), 32, "")
	p.told("behind its end")
}

// TestP25_1Pipe: what is written to a pipe needs no sectors.
func TestP25_1Pipe(t *testing.T) {
	p := pairOf(t, 1, 1)
	p.done(open(0, "f", 1), write(0, 0, strings.Repeat("x", 32)), pipes(0))
	p.ok(write(0, 2, strings.Repeat("a", 40)), 24, "")
	p.ok(read(0, 1, 40), 0, strings.Repeat("a", 24))
	p.has(1, 0, 0)
}

// full are calls that use all pages of all processes, each a frame of its own, and all files with as many bytes as they may have.
func full(p *pair) {
	p.t.Helper()
	for page := range 4 {
		p.ok(poke(0, 32*page, 1+page), 0, "")
	}
	for pid := 1; pid < 6; pid++ {
		p.ok(fork(pid-1), pid, "")
	}
	for pid := range 6 {
		for at := range 128 {
			p.ok(poke(pid, at, pid*128+at), 0, "")
		}
	}
	for n, label := range labels()[:6] {
		p.ok(open(n, label, 1), 0, "")
		for range 32 {
			p.ok(write(n, 0, "b"+string(rune('a'+n))+"c"), 3, "")
		}
		p.no(write(n, 0, "x"), api.ErrRange)
	}
}

// TestP25_4Room: with 4 times MaxProcs frames and MaxFiles times 3 sectors all can be used, and nothing more is asked for.
func TestP25_4Room(t *testing.T) {
	p := pairOf(t, 24, 18)
	full(p)
	p.has(0, 0, 20)
	p.told("full")
	for pid := range 6 {
		for at := range 128 {
			p.ok(poke(pid, at, at), 0, "")
		}
	}
	p.no(open(0, "new", 1), api.ErrSpace)
	p.no(fork(0), api.ErrAgain)
	p.told("written again")
}

// TestP25_4Less: with one frame or one sector less not all can be used.
func TestP25_4Less(t *testing.T) {
	p := pairOf(t, 23, 17)
	for pid := 1; pid < 6; pid++ {
		p.done(fork(0))
	}
	for n := range 23 {
		p.ok(poke(n%6, n/6*32, 1), 0, "")
	}
	p.no(poke(5, 127, 1), api.ErrSpace)
	for _, label := range labels()[:5] {
		p.done(open(0, label, 1), write(0, 0, strings.Repeat("x", 96)), shut(0, 0))
	}
	p.done(open(0, labels()[5], 1), write(0, 0, strings.Repeat("x", 64)))
	p.no(write(0, 0, "x"), api.ErrSpace)
	p.has(0, 0, 0)
	p.told("full")
}

// TestP25_5Fork: what is forked and not written needs no frame; each page takes one behind the first write of one of those who share it, and the last one of them has it as its own.
func TestP25_5Fork(t *testing.T) {
	p := pairOf(t, 6, 1)
	p.done(poke(0, 0, 1), poke(0, 100, 2))
	p.has(4, 1, 0)
	for pid := 1; pid < 6; pid++ {
		p.ok(fork(pid-1), pid, "")
		p.has(4, 1, 0)
	}
	for pid := 1; pid < 5; pid++ {
		p.ok(poke(pid, 0, 10+pid), 0, "")
		p.has(4-pid, 1, pid)
		p.ok(poke(pid, 31, 1), 0, "")
		p.has(4-pid, 1, pid)
	}
	p.no(poke(5, 0, 9), api.ErrSpace)
	p.no(poke(0, 0, 9), api.ErrSpace)
	p.no(poke(1, 101, 9), api.ErrSpace)
	p.done(kill(0, 5))
	p.has(0, 1, 4)
	p.ok(poke(0, 0, 9), 0, "")
	p.has(0, 1, 4)
	p.told("all of it")
	for pid := 1; pid < 5; pid++ {
		p.ok(peek(pid, 0), 10+pid, "")
		p.ok(peek(pid, 100), 2, "")
	}
}

// TestP25_5NoFrame: with one frame, that is used, as many processes as there may be.
func TestP25_5NoFrame(t *testing.T) {
	p := pairOf(t, 1, 1)
	p.done(poke(0, 0, 7))
	for pid := 1; pid < 6; pid++ {
		p.ok(fork(0), pid, "")
		p.ok(peek(pid, 0), 7, "")
	}
	p.has(0, 1, 0)
	for pid := range 6 {
		p.no(poke(pid, 0, 7), api.ErrSpace)
	}
	p.no(fork(5), api.ErrAgain)
	p.told("behind all")
}

// TestE4Ends: what a process had alone is free when it exits or is killed, what it shared is not; when all have ended all is free, but for what 0 has.
func TestE4Ends(t *testing.T) {
	for _, end := range []func(int) api.Posix{func(pid int) api.Posix { return exit(pid, 3) }, func(pid int) api.Posix { return kill(0, pid) }, func(pid int) api.Posix { return kill(pid, pid) }} {
		p := pairOf(t, 8, 8)
		p.done(poke(0, 0, 1), fork(0), fork(1), poke(1, 0, 2), poke(1, 40, 3), fork(1), poke(2, 100, 4))
		p.done(open(1, "f", 1), write(1, 0, strings.Repeat("x", 40)), fork(1), unlink(0, "f"), open(2, "a", 1), write(2, 0, "y"))
		p.has(4, 5, 1)
		p.done(end(1))
		p.has(4, 5, 1)
		p.done(end(3))
		p.has(4, 5, 1)
		p.done(end(4))
		p.has(6, 7, 1)
		p.done(end(2))
		p.has(7, 7, 1)
		p.told("all have ended")
		p.done(unlink(0, "a"))
		p.has(7, 8, 1)
		p.ok(poke(0, 9, 9), 0, "")
		p.has(7, 8, 1)
		for range 4 {
			p.done(wait(0))
		}
		p.told("waited for")
	}
}

// TestE4GivenAgain: a number, a frame, a sector and a pipe that are given again have nothing of who had them.
func TestE4GivenAgain(t *testing.T) {
	p := pairOf(t, 1, 1)
	p.done(fork(0), pipes(1), open(1, "f", 1), write(1, 2, strings.Repeat("x", 32)), write(1, 1, "in it"))
	for at := range 32 {
		p.done(poke(1, 64+at, 255))
	}
	p.has(0, 0, 0)
	p.done(unlink(0, "f"), exit(1, 9))
	p.has(1, 1, 0)
	p.ok(wait(0), 1, "9")
	p.ok(fork(0), 1, "")
	p.done(poke(1, 31, 1))
	for at := range 128 {
		p.ok(peek(1, at), max(0, at-30)*max(0, 32-at), "")
	}
	p.ok(pipes(1), 0, "1")
	p.no(read(1, 0, 9), api.ErrAgain)
	p.ok(open(1, "f", 1), 2, "")
	p.ok(write(1, 2, "y"), 1, "")
	p.done(seek(1, 2, 0))
	p.ok(read(1, 2, 99), 0, "y")
	p.told("given again")
}

// TestE4Unlinked: a file without a name is there as long as anybody has it open, and can be written; its sectors are free with the last one who closes it.
func TestE4Unlinked(t *testing.T) {
	p := pairOf(t, 1, 4)
	p.done(open(0, "f", 1), write(0, 0, strings.Repeat("x", 33)), unlink(0, "f"))
	p.has(1, 2, 0)
	p.done(open(0, "f", 1), write(0, 1, "other"))
	p.has(1, 1, 0)
	p.done(dup(0, 0), fork(0))
	p.ok(write(1, 2, strings.Repeat("z", 32)), 32, "")
	p.has(1, 0, 0)
	p.done(seek(0, 0, 30))
	p.ok(read(1, 0, 9), 0, "xxxzzzzzz")
	p.done(shut(0, 0), shut(1, 0), shut(0, 2))
	p.has(1, 0, 0)
	p.done(shut(1, 2))
	p.has(1, 3, 0)
	p.told("closed")
	p.done(unlink(1, "f"), shut(0, 1))
	p.has(1, 3, 0)
	p.done(exit(1, 0))
	p.has(1, 4, 0)
	p.told("gone")
}

// TestE4OpenAgain: a file that is opened by each process on its own is there until the last one ends.
func TestE4OpenAgain(t *testing.T) {
	p := pairOf(t, 1, 3)
	p.done(open(0, "f", 1), write(0, 0, "text"))
	for pid := 1; pid < 6; pid++ {
		p.done(fork(0))
		for range 7 {
			p.done(open(pid, "f", 0))
		}
	}
	for range 7 {
		p.done(open(0, "f", 0))
	}
	p.no(open(0, "f", 0), api.ErrQuota)
	p.done(unlink(0, "f"))
	for pid := 1; pid < 6; pid++ {
		p.ok(read(pid, 7, 9), 0, "text")
		p.done(exit(pid, 0))
	}
	for fd := range 8 {
		p.has(1, 2, 0)
		p.done(shut(0, fd))
	}
	p.has(1, 3, 0)
}
