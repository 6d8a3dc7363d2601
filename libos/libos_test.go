package libos

import (
	"math"
	"reflect"
	"slices"
	"strings"
	"testing"

	"embrasure/api"
)

func TestP25_1Example(t *testing.T) {
	p := pairOf(t, 2, 4)
	p.ok(poke(0, 0, 1), 0, "")
	p.ok(fork(0), 1, "")
	p.ok(poke(1, 0, 1), 0, "")
	p.has(0, 4, 1)
	p.no(poke(1, 40, 1), api.ErrSpace)
	p.has(0, 4, 1)
}

// TestP25_1New: as many frames and sectors as vm.New and file.New take, all free; process 0 alone, its bytes 0, without descriptors and files.
func TestP25_1New(t *testing.T) {
	for _, c := range [][2]int{{1, 1}, {1, 64}, {64, 1}, {64, 64}, {12, 8}, {24, 18}} {
		l := New(c[0], c[1])
		if l == nil || l == New(c[0], c[1]) {
			t.Fatal(c, "no library of its own")
		}
		if l.Frames() != c[0] || l.Sectors() != c[1] || l.Copies() != 0 {
			t.Error(c, l.Frames(), l.Sectors(), l.Copies())
		}
		if !slices.Equal(l.Running(), []int{0}) || !slices.Equal(l.Bytes(0), make([]byte, 128)) || len(l.List(0)) != 0 || len(l.Names()) != 0 {
			t.Error(c, l.Running(), l.Bytes(0), l.List(0), l.Names())
		}
		for _, pid := range append(noProcs(), 1, 5) {
			if len(l.Bytes(pid)) != 0 || len(l.List(pid)) != 0 {
				t.Error(pid, l.Bytes(pid), l.List(pid))
			}
		}
		if text, ok := l.Text("f"); text != "" || ok {
			t.Error(text, ok)
		}
	}
}

func TestE7New(t *testing.T) {
	for _, n := range []int{0, 65, -1, 66, -64, 128, 1 << 32, 1<<32 + 1, math.MinInt, math.MaxInt} {
		for _, right := range []int{1, 12, 64} {
			if New(n, right) != nil || New(right, n) != nil {
				t.Error(n, right)
			}
		}
		if New(n, n) != nil {
			t.Error(n)
		}
	}
}

// TestP1Nil: each call of a nil library is ErrNil, and all else is none.
func TestP1Nil(t *testing.T) {
	var l *Library
	for _, pid := range append(noProcs(), 0, 1) {
		calls := append(each(pid), wrong(pid)...)
		for _, c := range calls {
			if got := l.Do(c); got != no(api.ErrNil) {
				t.Error(c, got)
			}
		}
		replies := l.Fold(calls)
		if len(replies) != len(calls) || slices.ContainsFunc(replies, func(r api.Reply) bool { return r != no(api.ErrNil) }) {
			t.Error(replies)
		}
		if len(l.Bytes(pid)) != 0 || len(l.List(pid)) != 0 {
			t.Error(pid)
		}
	}
	for _, label := range append(labels(), noLabels()...) {
		if text, ok := l.Text(label); text != "" || ok {
			t.Error(label, text, ok)
		}
	}
	if len(l.Fold(nil)) != 0 || len(l.Running()) != 0 || len(l.Names()) != 0 || l.Frames() != 0 || l.Sectors() != 0 || l.Copies() != 0 || l.Fork() != nil {
		t.Error("something of nil")
	}
}

// TestP25_2Calls: a library has the calls that the chapter lists, and none of those of what it lies on.
func TestP25_2Calls(t *testing.T) {
	var got []string
	of := reflect.TypeFor[*Library]()
	for n := range of.NumMethod() {
		got = append(got, of.Method(n).Name)
	}
	want := strings.Fields("Bytes Copies Do Fold Fork Frames List Names Running Sectors Text")
	if !slices.Equal(got, want) || reflect.TypeFor[Library]().NumMethod() != 0 {
		t.Error(got, "not", want)
	}
}

// TestP25_1Noent: whoever does not run has ErrNoent ahead of all else: numbers that are none, one that there is not, a Zombie.
func TestP25_1Noent(t *testing.T) {
	p := pairOf(t, 1, 1)
	p.done(pipes(0), open(0, "f", 1), fork(0), fork(0), exit(2, 3))
	for _, pid := range append(noProcs(), 2, 3, 5) {
		for _, c := range append(each(pid), wrong(pid)...) {
			p.no(c, api.ErrNoent)
		}
	}
	p.told("behind all")
}

// TestP25_1NoKind: a kind that is none is ErrRange, whatever else the call says.
func TestP25_1NoKind(t *testing.T) {
	p := pairOf(t, 1, 1)
	p.done(open(0, "f", 1))
	for _, k := range []api.PosixKind{api.NoPosix, api.Posixes, 16, 17, 127, 128, 255} {
		for _, n := range []int{0, -1, 200} {
			p.no(api.Posix{Kind: k, N: n, M: n, Text: "f"}, api.ErrRange)
		}
	}
	p.told("behind all")
}

// TestP25_1Runs: by a process that runs each kind is done, also by the last number.
func TestP25_1Runs(t *testing.T) {
	for pid := range 6 {
		p := pairOf(t, 12, 8)
		for n := range pid {
			p.ok(fork(n), n+1, "")
		}
		p.ok(poke(pid, 5, 263), 0, "")
		p.ok(peek(pid, 5), 7, "")
		p.ok(pipes(pid), 0, "1")
		p.ok(write(pid, 1, "in it"), 5, "")
		p.ok(read(pid, 0, 2), 0, "in")
		p.ok(open(pid, "f", 1), 2, "")
		p.ok(write(pid, 2, "abc"), 3, "")
		p.ok(seek(pid, 2, 1), 0, "")
		p.ok(read(pid, 2, 9), 0, "bc")
		p.ok(dup(pid, 2), 3, "")
		p.ok(shut(pid, 2), 0, "")
		p.ok(unlink(pid, "f"), 0, "")
		if pid < 5 {
			p.ok(fork(pid), pid+1, "")
			p.ok(kill(pid, pid+1), 0, "")
			p.ok(wait(pid), pid+1, "137")
		}
		p.told("behind each kind")
		if pid > 0 {
			p.ok(exit(pid, -3), 0, "")
			p.told("behind its end")
			p.ok(wait(pid-1), pid, "253")
		}
	}
}

// TestP25_1Errors: what is refused is refused as by posix, each error by name.
func TestP25_1Errors(t *testing.T) {
	p := pairOf(t, 2, 2)
	p.no(exit(0, 1), api.ErrPerm)
	p.no(wait(0), api.ErrForm)
	p.done(fork(0), fork(0), fork(1), fork(1), fork(1))
	p.no(fork(3), api.ErrAgain)
	p.no(wait(1), api.ErrAgain)
	p.no(kill(1, 0), api.ErrPerm)
	for _, n := range noProcs() {
		p.no(kill(1, n), api.ErrNoent)
	}
	for _, at := range noAddresses() {
		p.no(poke(1, at, 1), api.ErrFault)
		p.no(peek(1, at), api.ErrFault)
	}
	p.done(pipes(1), open(1, "f", 1))
	for _, fd := range append(noFds(), 3, 7) {
		for _, c := range []api.Posix{read(1, fd, 1), read(1, fd, -1), write(1, fd, ""), write(1, fd, strings.Repeat("x", 97)), seek(1, fd, 0), seek(1, fd, -1), dup(1, fd), shut(1, fd)} {
			p.no(c, api.ErrForm)
		}
	}
	p.no(read(1, 1, 1), api.ErrState)
	p.no(write(1, 0, "x"), api.ErrState)
	p.no(seek(1, 0, -1), api.ErrState)
	p.no(seek(1, 1, 5), api.ErrState)
	p.no(read(1, 0, 1), api.ErrAgain)
	p.no(read(1, 0, -1), api.ErrRange)
	p.no(read(1, 2, -1), api.ErrRange)
	p.no(seek(1, 2, -1), api.ErrRange)
	p.no(seek(1, 2, 97), api.ErrRange)
	p.done(seek(1, 2, 1))
	p.no(write(1, 2, ""), api.ErrRange)
	for _, label := range noLabels() {
		p.no(open(1, label, 1), api.ErrForm)
		p.no(open(1, label, 0), api.ErrForm)
		p.no(unlink(1, label), api.ErrNoent)
	}
	p.no(open(1, "g", 0), api.ErrNoent)
	p.no(unlink(1, "g"), api.ErrNoent)
	p.told("refused")
	p.done(dup(1, 0), dup(1, 0), dup(1, 0), dup(1, 0))
	p.no(pipes(1), api.ErrQuota)
	p.done(dup(1, 2))
	for _, c := range []api.Posix{pipes(1), open(1, "f", 0), open(1, "g", 1), dup(1, 2)} {
		p.no(c, api.ErrQuota)
	}
	p.told("full")
}

// TestP25_1Files: MaxFiles of them, with a name or open without one, is posix's ErrSpace, with all sectors free; ErrQuota is ahead of it.
func TestP25_1Files(t *testing.T) {
	p := pairOf(t, 1, 64)
	for _, label := range labels()[:6] {
		p.ok(open(0, label, 1), 0, "")
		p.done(shut(0, 0))
	}
	p.no(open(0, "new", 1), api.ErrSpace)
	p.no(open(0, "new", 0), api.ErrNoent)
	p.ok(open(0, "f", 1), 0, "")
	p.done(unlink(0, "f"))
	p.no(open(0, "f", 1), api.ErrSpace)
	p.has(1, 64, 0)
	p.done(pipes(0), pipes(0), pipes(0))
	p.no(pipes(0), api.ErrQuota)
	p.ok(dup(0, 0), 7, "")
	p.no(open(0, "f", 1), api.ErrQuota)
	p.done(shut(0, 0))
	p.no(open(0, "f", 1), api.ErrSpace)
	p.done(shut(0, 7))
	p.ok(open(0, "f", 1), 0, "")
	p.told("behind all")
}

// TestP25_1Position: what is shared stands at one place; what is opened twice does not.
func TestP25_1Position(t *testing.T) {
	p := pairOf(t, 1, 3)
	p.done(open(0, "f", 1), write(0, 0, "hello world"), seek(0, 0, 0), dup(0, 0), fork(0), open(1, "f", 0))
	p.ok(read(0, 0, 2), 0, "he")
	p.ok(read(1, 1, 3), 0, "llo")
	p.ok(read(1, 2, 4), 0, "hell")
	p.done(seek(1, 0, 96))
	p.ok(read(0, 1, 5), 0, "")
	p.no(write(0, 1, "x"), api.ErrRange)
	p.done(seek(0, 0, 6), write(1, 1, "W"))
	p.ok(read(0, 0, math.MaxInt), 0, "orld")
	p.ok(read(1, 2, math.MaxInt), 0, "o World")
	p.told("behind all")
}

// TestP25_1Pipes: an end is open as long as anybody has a descriptor of it, whoever ends or closes.
func TestP25_1Pipes(t *testing.T) {
	p := pairOf(t, 1, 1)
	p.done(pipes(0), fork(0), fork(0))
	p.ok(write(1, 1, strings.Repeat("a", 20)), 20, "")
	p.no(write(2, 1, "12345"), api.ErrAgain)
	p.ok(write(2, 1, "123456789"), 4, "")
	p.no(write(0, 1, "x"), api.ErrAgain)
	p.ok(read(0, 0, 22), 0, strings.Repeat("a", 20)+"12")
	p.done(shut(0, 1), exit(1, 0))
	p.ok(read(0, 0, 9), 0, "34")
	p.no(read(0, 0, 9), api.ErrAgain)
	p.done(kill(0, 2))
	p.ok(read(0, 0, 9), 0, "")
	p.done(pipes(0))
	p.ok(write(0, 2, "left"), 4, "")
	p.done(dup(0, 1), shut(0, 1))
	p.ok(write(0, 2, "over"), 4, "")
	p.done(shut(0, 3))
	p.no(write(0, 2, "x"), api.ErrState)
	p.no(write(0, 2, ""), api.ErrState)
	p.done(shut(0, 2), pipes(0))
	p.no(read(0, 1, 9), api.ErrAgain)
	p.told("behind all")
}

// TestE7Pipes: as many pipes as there can be, each open to read alone; when some of them are gone there may be others, which are empty.
func TestE7Pipes(t *testing.T) {
	p := pairOf(t, 1, 1)
	for pid := range 6 {
		if pid > 0 {
			p.ok(fork(0), pid, "")
		}
		for _, fd := range p.l.List(pid) {
			p.done(shut(pid, fd))
		}
		for n := range 7 {
			p.done(pipes(pid))
			p.ok(write(pid, n+1, strings.Repeat("x", 1+n+pid)), 1+n+pid, "")
			p.done(shut(pid, n+1))
		}
		p.no(pipes(pid), api.ErrQuota)
	}
	for pid := range 6 {
		p.done(shut(pid, 3), pipes(pid))
		p.ok(write(pid, 7, "ab"), 2, "")
	}
	for pid := range 6 {
		p.ok(read(pid, 3, 9), 0, "ab")
		p.no(read(pid, 3, 9), api.ErrAgain)
		p.ok(read(pid, 2, 99), 0, strings.Repeat("x", 3+pid))
		p.ok(read(pid, 2, 99), 0, "")
	}
	p.told("behind all")
}

// TestE4Pipes: pipes that nobody has any more leave nothing, however many there were, closed one by one or by an end.
func TestE4Pipes(t *testing.T) {
	p := pairOf(t, 1, 1)
	first := p.l.Fork()
	for range 60 {
		p.ok(pipes(0), 0, "1")
		p.ok(write(0, 1, "left"), 4, "")
		p.done(shut(0, 1), shut(0, 0))
	}
	if !reflect.DeepEqual(p.l.Fork(), first) {
		t.Error("something is left")
	}
	p.done(fork(0), exit(1, 0), wait(0))
	for range 60 {
		p.done(fork(0), pipes(1), pipes(1), dup(1, 1), kill(0, 1), wait(0))
	}
	if !reflect.DeepEqual(p.l.Fork(), first) {
		t.Error("something is left")
	}
	p.told("behind all")
}

// TestP25_1Fold: Do of each, one behind the other, with those that are refused for want of room.
func TestP25_1Fold(t *testing.T) {
	calls := append(append(each(0), wrong(0)...), poke(0, 32, 1), pipes(0), fork(0), poke(1, 5, 1), write(1, 1, "hey"), read(0, 0, 2), exit(1, 300), wait(0))
	kept := append(slices.Clone(calls), api.Posix{Kind: api.ForkIt, Text: "spare"})
	handed := slices.Clone(kept)
	one, other := New(1, 1), New(1, 1)
	got := one.Fold(handed[:len(calls)])
	if !slices.Equal(handed, kept) {
		t.Error("what was handed in has changed")
	}
	var want []api.Reply
	for _, c := range calls {
		want = append(want, other.Do(c))
	}
	if !slices.Equal(got, want) || !reflect.DeepEqual(one, other) {
		t.Error(got, "not", want)
	}
	if !slices.Contains(got, no(api.ErrSpace)) {
		t.Error("there was room for all")
	}
	if len(one.Fold(nil)) != 0 || len(one.Fold([]api.Posix{})) != 0 || !reflect.DeepEqual(one, other) {
		t.Error("of nothing")
	}
}

// TestP3HandedOut: what was answered is the caller's.
func TestP3HandedOut(t *testing.T) {
	p := pairOf(t, 4, 4)
	p.done(poke(0, 1, 1), pipes(0), open(0, "f", 1), open(0, "a", 1), write(0, 2, "text"), fork(0))
	bytes, list, running, names := p.l.Bytes(0), p.l.List(0), p.l.Running(), p.l.Names()
	bytes, list, running, names = bytes[:cap(bytes)], list[:cap(list)], running[:cap(running)], names[:cap(names)]
	for n := range bytes {
		bytes[n] = 99
	}
	for n := range list {
		list[n] = 99
	}
	for n := range running {
		running[n] = 99
	}
	for n := range names {
		names[n] = "q"
	}
	p.told("behind a change of what was answered")
	older := p.l.Bytes(0)
	p.done(poke(0, 1, 55))
	if older[1] != 1 {
		t.Error("older bytes have changed")
	}
	replies := p.l.Fold([]api.Posix{peek(0, 1), peek(0, 2)})
	again := p.l.Fold([]api.Posix{peek(0, 1), peek(0, 2)})
	replies[0].N = 1000
	if again[0].N != 55 {
		t.Error(again)
	}
}

// TestP25_2Told: what is told of what there is, and of what there is not.
func TestP25_2Told(t *testing.T) {
	p := pairOf(t, 5, 5)
	p.done(open(0, "zz", 1), open(0, "f", 1), open(0, "β", 1), open(0, "0", 1), write(0, 1, strings.Repeat("text", 9)), shut(0, 1), poke(0, 100, 3), fork(0), fork(0), exit(1, 0), poke(2, 100, 4))
	if got := p.l.Names(); !slices.Equal(got, []string{"0", "f", "zz", "β"}) {
		t.Error(got)
	}
	for _, c := range []struct {
		label, text string
		ok          bool
	}{{"f", strings.Repeat("text", 9), true}, {"zz", "", true}, {"a", "", false}, {"", "", false}, {"F", "", false}, {strings.Repeat("f", 99), "", false}} {
		if text, ok := p.l.Text(c.label); text != c.text || ok != c.ok {
			t.Errorf("%q %q %t", c.label, text, ok)
		}
	}
	if !slices.Equal(p.l.List(0), []int{0, 2, 3}) || !slices.Equal(p.l.List(2), []int{0, 2, 3}) || len(p.l.List(1)) != 0 || len(p.l.List(3)) != 0 {
		t.Error(p.l.List(0), p.l.List(1), p.l.List(2))
	}
	if !slices.Equal(p.l.Running(), []int{0, 2}) || len(p.l.Bytes(1)) != 0 || p.l.Bytes(0)[100] != 3 || p.l.Bytes(2)[100] != 4 {
		t.Error(p.l.Running(), p.l.Bytes(0), p.l.Bytes(1), p.l.Bytes(2))
	}
	p.has(3, 3, 1)
	p.told("all of it")
}
