package posix

import (
	"math"
	"slices"
	"strings"
	"testing"

	"embrasure/api"
)

// withFile is a pair whose process 0 has descriptor 0 of a file f with a text, at 0.
func withFile(t *testing.T, text string) *pair {
	t.Helper()
	p := pairOf(t)
	p.ok(open(0, "f", 1), 0, "")
	p.ok(write(0, 0, text), len(text), "")
	p.ok(seek(0, 0, 0), 0, "")
	return p
}

// holds holds a file's text against what is asked for.
func (p *pair) holds(label, want string) {
	p.t.Helper()
	if text, ok := p.m.Text(label); text != want || !ok {
		p.t.Errorf("Text %q: %q %t, not %q", label, text, ok, want)
	}
}

// TestP24_1Open: the least descriptor, at 0; each time it is opened it stands by itself; what is there is not made anew.
func TestP24_1Open(t *testing.T) {
	p := withFile(t, "hello")
	p.ok(open(0, "f", 0), 1, "")
	p.ok(open(0, "f", 1), 2, "")
	p.ok(open(0, "f", -7), 3, "")
	p.ok(read(0, 1, 2), 0, "he")
	p.ok(read(0, 2, 9), 0, "hello")
	p.ok(read(0, 1, 2), 0, "ll")
	p.ok(write(0, 3, "J"), 1, "")
	p.ok(read(0, 0, 9), 0, "Jello")
	p.holds("f", "Jello")
	p.done(shut(0, 1))
	p.ok(open(0, "f", 0), 1, "")
	p.ok(read(0, 1, 9), 0, "Jello")
	p.told("behind all")
}

// TestP24_1OpenMade: a file is made, if M is not 0, whatever it is.
func TestP24_1OpenMade(t *testing.T) {
	for _, made := range []int{1, 2, -1, 256, 1 << 32, math.MinInt, math.MaxInt} {
		p := pairOf(t)
		p.no(open(0, "f", 0), api.ErrNoent)
		if len(p.m.Names()) != 0 {
			t.Error(p.m.Names())
		}
		p.ok(open(0, "f", made), 0, "")
		p.holds("f", "")
		p.ok(read(0, 0, 9), 0, "")
		p.no(open(0, "a", 0), api.ErrNoent)
		p.told("made")
	}
}

// TestP24_1OpenForm: a text that is no label is ErrForm, whatever else.
func TestP24_1OpenForm(t *testing.T) {
	p := pairOf(t)
	for _, text := range append(noLabels(), strings.Repeat("a", 1000)) {
		p.no(open(0, text, 0), api.ErrForm)
		p.no(open(0, text, 1), api.ErrForm)
	}
	for n, text := range labels()[:6] {
		p.ok(open(0, text, 1), n, "")
	}
	p.told("all labels")
}

// TestP24_1OpenOrder: ErrForm, ErrNoent, ErrQuota, ErrSpace: the first of them that applies.
func TestP24_1OpenOrder(t *testing.T) {
	p := pairOf(t)
	for n, text := range labels()[:6] {
		p.ok(open(0, text, 1), n, "")
	}
	p.no(open(0, "new", 1), api.ErrSpace)
	p.no(open(0, "new", 0), api.ErrNoent)
	p.no(open(0, "New", 1), api.ErrForm)
	p.ok(open(0, "f", 1), 6, "")
	p.ok(open(0, "f", 0), 7, "")
	p.no(open(0, "New", 0), api.ErrForm)
	p.no(open(0, "new", 0), api.ErrNoent)
	p.no(open(0, "new", 1), api.ErrQuota)
	p.no(open(0, "f", 0), api.ErrQuota)
	p.no(open(0, "f", 1), api.ErrQuota)
	p.told("full")
	p.done(shut(0, 3))
	p.no(open(0, "new", 1), api.ErrSpace)
	p.ok(open(0, "f", 1), 3, "")
}

// TestP24_1OpenSpace: MaxFiles files, with those that have no name and are open; one that is not open any more is none.
func TestP24_1OpenSpace(t *testing.T) {
	p := pairOf(t)
	for _, text := range labels()[:5] {
		p.ok(open(0, text, 1), 0, "")
		p.done(shut(0, 0))
	}
	p.ok(open(0, "six", 1), 0, "")
	p.no(open(0, "seven", 1), api.ErrSpace)
	p.done(unlink(0, "six"))
	p.no(open(0, "seven", 1), api.ErrSpace)
	p.no(open(0, "six", 1), api.ErrSpace)
	p.told("one without a name")
	p.done(fork(0), shut(0, 0))
	p.no(open(0, "seven", 1), api.ErrSpace)
	p.done(kill(0, 1))
	p.ok(open(0, "seven", 1), 0, "")
	p.no(open(0, "eight", 1), api.ErrSpace)
	p.done(unlink(0, "f"))
	p.ok(open(0, "eight", 1), 1, "")
	p.no(open(0, "nine", 1), api.ErrSpace)
	p.told("behind all")
}

// TestP24_1AllNameless: six files that are open and have no name leave no room for a seventh; each has its own text.
func TestP24_1AllNameless(t *testing.T) {
	p := pairOf(t)
	for n := range 6 {
		p.ok(open(0, "f", 1), n, "")
		p.ok(write(0, n, strings.Repeat("x", n+1)), n+1, "")
		p.ok(unlink(0, "f"), 0, "")
	}
	p.no(open(0, "f", 1), api.ErrSpace)
	p.no(open(0, "f", 0), api.ErrNoent)
	for n := range 6 {
		p.done(seek(0, n, 0))
		p.ok(read(0, n, 99), 0, strings.Repeat("x", n+1))
	}
	if len(p.m.Names()) != 0 {
		t.Error(p.m.Names())
	}
	p.done(shut(0, 4))
	p.ok(open(0, "f", 1), 4, "")
	p.holds("f", "")
	p.told("behind all")
}

// TestP24_1NoDescriptor: what is no descriptor of the process is ErrForm, ahead of all else.
func TestP24_1NoDescriptor(t *testing.T) {
	p := withFile(t, "abc")
	p.done(fork(0), open(1, "f", 0), shut(0, 0))
	for _, fd := range append(noFds(), 0, 1, 2, 7) {
		for _, n := range []int{0, 1, -1, 97, math.MinInt} {
			p.no(read(0, fd, n), api.ErrForm)
			p.no(seek(0, fd, n), api.ErrForm)
		}
		p.no(write(0, fd, "x"), api.ErrForm)
		p.no(write(0, fd, ""), api.ErrForm)
		p.no(write(0, fd, strings.Repeat("x", 200)), api.ErrForm)
		p.no(dup(0, fd), api.ErrForm)
		p.no(shut(0, fd), api.ErrForm)
	}
	p.ok(read(1, 1, 9), 0, "abc")
	p.told("behind all")
}

// TestP24_1Read: at most so many bytes from the position on, which is behind them then.
func TestP24_1Read(t *testing.T) {
	p := withFile(t, "hello")
	p.ok(read(0, 0, 0), 0, "")
	p.ok(read(0, 0, 2), 0, "he")
	for _, n := range []int{-1, -2, -1 << 32, math.MinInt} {
		p.no(read(0, 0, n), api.ErrRange)
	}
	p.ok(read(0, 0, 3), 0, "llo")
	p.ok(read(0, 0, 1), 0, "")
	p.no(read(0, 0, -1), api.ErrRange)
	for _, n := range []int{5, 6, 96, 97, 1 << 32, math.MaxInt} {
		p.done(seek(0, 0, 0))
		p.ok(read(0, 0, n), 0, "hello")
		p.done(seek(0, 0, 4))
		p.ok(read(0, 0, n), 0, "o")
		p.ok(read(0, 0, n), 0, "")
	}
	p.ok(write(0, 0, "!"), 1, "")
	p.holds("f", "hello!")
}

// TestP24_1ReadBehind: behind the end there is nothing, and the position stays there.
func TestP24_1ReadBehind(t *testing.T) {
	for _, at := range []int{4, 5, 50, 95, 96} {
		p := withFile(t, "abc")
		p.done(seek(0, 0, at))
		p.no(read(0, 0, -1), api.ErrRange)
		p.ok(read(0, 0, 0), 0, "")
		p.ok(read(0, 0, 9), 0, "")
		p.ok(read(0, 0, math.MaxInt), 0, "")
		p.no(write(0, 0, "x"), api.ErrRange)
		p.done(open(0, "f", 0), seek(0, 1, 3), write(0, 1, strings.Repeat("y", 93)))
		p.ok(read(0, 0, 99), 0, strings.Repeat("y", 96-at))
	}
}

// TestP24_1Write: at 0, within and at the end; what stands behind it stays.
func TestP24_1Write(t *testing.T) {
	for _, c := range []struct {
		at         int
		text, want string
	}{
		{0, "", "hello"}, {0, "J", "Jello"}, {0, "JELLO", "JELLO"}, {0, "Goodbye", "Goodbye"}, {2, "LL", "heLLo"}, {4, "O", "hellO"}, {3, "p me", "help me"},
		{5, "", "hello"}, {5, "!", "hello!"}, {5, "\x00\xff \n", "hello\x00\xff \n"}, {1, "ä", "h\xc3\xa4lo"},
	} {
		p := withFile(t, "hello")
		p.done(seek(0, 0, c.at))
		p.ok(write(0, 0, c.text), len(c.text), "")
		p.holds("f", c.want)
		p.ok(read(0, 0, 99), 0, c.want[c.at+len(c.text):])
		p.told("written")
	}
}

// TestP24_1WriteBehind: with the position above the size nothing is written, not even nothing.
func TestP24_1WriteBehind(t *testing.T) {
	for _, at := range []int{6, 7, 95, 96} {
		p := withFile(t, "hello")
		p.done(seek(0, 0, at))
		p.no(write(0, 0, ""), api.ErrRange)
		p.no(write(0, 0, "x"), api.ErrRange)
		p.holds("f", "hello")
		p.done(seek(0, 0, 5))
		p.ok(write(0, 0, "x"), 1, "")
	}
	p := pairOf(t)
	p.done(open(0, "f", 1), seek(0, 0, 1))
	p.no(write(0, 0, ""), api.ErrRange)
	p.done(seek(0, 0, 0))
	p.ok(write(0, 0, ""), 0, "")
	p.holds("f", "")
}

// TestP24_1WriteMost: a text may end at MaxFile, not behind it.
func TestP24_1WriteMost(t *testing.T) {
	for _, at := range []int{0, 1, 50, 95, 96} {
		p := withFile(t, strings.Repeat("a", at))
		p.done(seek(0, 0, at))
		p.no(write(0, 0, strings.Repeat("b", 97-at)), api.ErrRange)
		p.no(write(0, 0, strings.Repeat("b", 1000)), api.ErrRange)
		p.ok(write(0, 0, strings.Repeat("b", 96-at)), 96-at, "")
		p.holds("f", strings.Repeat("a", at)+strings.Repeat("b", 96-at))
		p.ok(write(0, 0, ""), 0, "")
		p.no(write(0, 0, "c"), api.ErrRange)
		p.done(seek(0, 0, 95))
		p.no(write(0, 0, "cc"), api.ErrRange)
		p.ok(write(0, 0, "c"), 1, "")
		p.told("full")
	}
}

// TestP24_1WriteN: how many bytes a call says is nothing to what is written.
func TestP24_1WriteN(t *testing.T) {
	for _, n := range []int{-1, 1, 500, math.MinInt} {
		p := withFile(t, "")
		p.done(pipes(0))
		for _, fd := range []int{0, 2} {
			c := write(0, fd, "abc")
			c.N = n
			p.ok(c, 3, "")
		}
	}
}

// TestP24_1Seek: from 0 to MaxFile, also behind the end.
func TestP24_1Seek(t *testing.T) {
	p := withFile(t, "hello")
	for _, at := range []int{0, 1, 5, 6, 95, 96} {
		p.ok(seek(0, 0, at), 0, "")
		p.ok(read(0, 0, 9), 0, "hello"[min(at, 5):])
	}
	p.done(seek(0, 0, 2))
	for _, at := range []int{-1, 97, 98, -96, 256, 1 << 32, -1 << 32, math.MinInt, math.MaxInt} {
		p.no(seek(0, 0, at), api.ErrRange)
	}
	p.ok(read(0, 0, 9), 0, "llo")
	p.told("behind all")
}

// TestP24_1Dup: the least descriptor, which shares; ErrQuota without room.
func TestP24_1Dup(t *testing.T) {
	p := withFile(t, "hello")
	for n := 1; n < 8; n++ {
		p.ok(dup(0, n-1), n, "")
	}
	p.no(dup(0, 0), api.ErrQuota)
	p.no(dup(0, 7), api.ErrQuota)
	p.no(dup(0, 8), api.ErrForm)
	p.ok(read(0, 7, 1), 0, "h")
	p.ok(read(0, 3, 1), 0, "e")
	p.done(seek(0, 5, 4))
	p.ok(read(0, 0, 1), 0, "o")
	p.done(shut(0, 2), shut(0, 6))
	p.ok(dup(0, 7), 2, "")
	p.ok(open(0, "f", 0), 6, "")
	p.ok(read(0, 2, 9), 0, "")
	p.ok(read(0, 6, 9), 0, "hello")
	p.no(dup(0, 6), api.ErrQuota)
	p.told("behind all")
}

// TestP24_1Close: of one that shares the others stay; of the last one all is gone.
func TestP24_1Close(t *testing.T) {
	p := withFile(t, "hello")
	p.done(dup(0, 0), unlink(0, "f"))
	p.ok(shut(0, 0), 0, "")
	p.no(shut(0, 0), api.ErrForm)
	p.no(read(0, 0, 1), api.ErrForm)
	p.ok(read(0, 1, 9), 0, "hello")
	p.ok(shut(0, 1), 0, "")
	if len(p.m.List(0)) != 0 {
		t.Error(p.m.List(0))
	}
	p.ok(open(0, "f", 1), 0, "")
	p.ok(read(0, 0, 9), 0, "")
	p.told("behind all")
}

// TestP24_1ClosedStays: a file that has a name stays, though nobody has it open.
func TestP24_1ClosedStays(t *testing.T) {
	p := withFile(t, "hello")
	p.done(shut(0, 0))
	p.holds("f", "hello")
	p.done(fork(0))
	p.ok(open(1, "f", 0), 0, "")
	p.ok(read(1, 0, 9), 0, "hello")
	p.done(exit(1, 0))
	p.holds("f", "hello")
	p.told("behind all")
}

// TestP24_1Unlink: the name is gone; who has it open has it still; another file may have the name.
func TestP24_1Unlink(t *testing.T) {
	p := withFile(t, "old")
	for _, text := range append(noLabels(), "a", "ff") {
		p.no(unlink(0, text), api.ErrNoent)
	}
	p.ok(unlink(0, "f"), 0, "")
	for _, text := range append(noLabels(), "f") {
		p.no(unlink(0, text), api.ErrNoent)
	}
	if _, ok := p.m.Text("f"); ok || len(p.m.Names()) != 0 {
		t.Error(p.m.Names())
	}
	p.no(open(0, "f", 0), api.ErrNoent)
	p.ok(open(0, "f", 1), 1, "")
	p.ok(write(0, 1, "newer"), 5, "")
	p.ok(read(0, 0, 9), 0, "old")
	p.ok(write(0, 0, "est"), 3, "")
	p.holds("f", "newer")
	p.done(seek(0, 0, 0))
	p.ok(read(0, 0, 9), 0, "oldest")
	p.ok(unlink(0, "f"), 0, "")
	p.done(seek(0, 1, 0))
	p.ok(read(0, 1, 9), 0, "newer")
	p.told("behind all")
}

// TestP24_1UnlinkNotOpen: a file that is not open is no more when it has no name.
func TestP24_1UnlinkNotOpen(t *testing.T) {
	p := withFile(t, "old")
	p.done(shut(0, 0), fork(0))
	p.ok(unlink(1, "f"), 0, "")
	p.no(open(0, "f", 0), api.ErrNoent)
	p.ok(open(0, "f", 1), 0, "")
	p.ok(read(0, 0, 9), 0, "")
	p.told("behind all")
}

// TestP24_1SharedFile: parent and child stand at one place; who opens it anew stands by itself.
func TestP24_1SharedFile(t *testing.T) {
	p := withFile(t, "hello")
	p.done(fork(0))
	p.ok(read(0, 0, 2), 0, "he")
	p.ok(read(1, 0, 2), 0, "ll")
	p.ok(open(1, "f", 0), 1, "")
	p.ok(read(1, 1, 1), 0, "h")
	p.done(seek(1, 0, 4))
	p.ok(read(0, 0, 2), 0, "o")
	p.ok(write(1, 0, "!"), 1, "")
	p.holds("f", "hello!")
	p.ok(read(0, 0, 1), 0, "")
	p.done(unlink(0, "f"), shut(0, 0), seek(1, 0, 1))
	p.ok(read(1, 0, 9), 0, "ello!")
	p.ok(read(1, 1, 9), 0, "ello!")
	p.done(kill(0, 1))
	p.ok(open(0, "f", 1), 0, "")
	p.holds("f", "")
	if !slices.Equal(p.m.Names(), []string{"f"}) {
		t.Error(p.m.Names())
	}
	p.told("behind all")
}
