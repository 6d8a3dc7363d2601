package fds

import (
	"math"
	"slices"
	"testing"

	"embrasure/api"
)

func TestP21_1Example(t *testing.T) {
	d := New()
	if e := d.Begin(0); e != api.OK {
		t.Fatal(e)
	}
	if fd, e := d.Open(0, api.Open{Kind: api.FileOpen}); fd != 0 || e != api.OK {
		t.Error(fd, e)
	}
	if fd, e := d.Dup(0, 0); fd != 1 || e != api.OK {
		t.Error(fd, e)
	}
	if e := d.Move(0, 1, 5); e != api.OK {
		t.Error(e)
	}
	if o, e := d.Get(0, 0); o != (api.Open{Kind: api.FileOpen, Pos: 5}) || e != api.OK {
		t.Error(o, e)
	}
}

func TestP21_1New(t *testing.T) {
	p := pairOf(t)
	if p.d == nil {
		t.Fatal("nil")
	}
	p.told("a new one")
	p.begin(0)
	p.open(0, fileAt(1, 2))
	pairOf(t).told("the next one")
}

// TestP21_1Begin: each process once, without any; what there is stays as it was.
func TestP21_1Begin(t *testing.T) {
	p := pairOf(t)
	for _, pid := range noProcs() {
		if e := p.begin(pid); e != api.ErrRange {
			t.Fatal(pid, e)
		}
	}
	p.told("refused")
	for _, pid := range []int{5, 0, 3, 1, 2, 4} {
		if e := p.begin(pid); e != api.OK {
			t.Fatal(pid, e)
		}
		p.told("one more")
		p.open(pid, fileAt(pid, 9))
		for range 2 {
			if e := p.begin(pid); e != api.ErrExist {
				t.Fatal(pid, e)
			}
		}
		p.told("once more")
	}
	for _, pid := range noProcs() {
		if e := p.begin(pid); e != api.ErrRange {
			t.Fatal(pid, e)
		}
	}
	p.told("all")
}

// TestP21_1BeginAgain: a process that ended begins without any.
func TestP21_1BeginAgain(t *testing.T) {
	p := pairOf(t, 2)
	p.open(2, fileAt(1, 1))
	p.open(2, fileAt(2, 2))
	p.end(2)
	if e := p.begin(2); e != api.OK {
		t.Fatal(e)
	}
	if len(p.d.List(2)) != 0 || p.d.Room(2) != 8 {
		t.Error(p.d.List(2), p.d.Room(2))
	}
	p.told("again")
}

// TestP21_1NoProcess: of a process that there is not, in each call, ahead of all other errors.
func TestP21_1NoProcess(t *testing.T) {
	p := pairOf(t, 1, 3)
	p.open(1, fileAt(1, 1))
	p.fork(1, 4)
	p.end(3)
	for _, pid := range append(noProcs(), 0, 2, 3, 5) {
		if gone, e := p.d.End(pid); len(gone) != 0 || e != api.ErrNoent {
			t.Fatal("End", pid, gone, e)
		}
		for _, to := range append(noProcs(), 0, 1, 2, 3, 4, 5, pid) {
			if e := p.d.Fork(pid, to); e != api.ErrNoent {
				t.Fatal("Fork", pid, to, e)
			}
		}
		for kind := range 256 {
			if fd, e := p.d.Open(pid, api.Open{Kind: api.OpenKind(kind), Ref: 1}); fd != 0 || e != api.ErrNoent {
				t.Fatal("Open", pid, kind, fd, e)
			}
		}
		for _, fd := range append(noFds(), 0, 1, 7) {
			if got, e := p.d.Dup(pid, fd); got != 0 || e != api.ErrNoent {
				t.Fatal("Dup", pid, fd, got, e)
			}
			if o, last, e := p.d.Close(pid, fd); o != (api.Open{}) || last || e != api.ErrNoent {
				t.Fatal("Close", pid, fd, o, last, e)
			}
			if e := p.d.Move(pid, fd, 7); e != api.ErrNoent {
				t.Fatal("Move", pid, fd, e)
			}
			if o, e := p.d.Get(pid, fd); o != (api.Open{}) || e != api.ErrNoent {
				t.Fatal("Get", pid, fd, o, e)
			}
		}
	}
	p.told("refused")
}

// TestP21_1NoDescriptor: of a descriptor that there is not, also where none could be had.
func TestP21_1NoDescriptor(t *testing.T) {
	p := pairOf(t, 0, 1, 2)
	for range 7 {
		p.open(0, fileAt(3, 3))
	}
	for range 8 {
		p.open(1, fileAt(4, 4))
	}
	wrong := func(pid, fd int) {
		t.Helper()
		if got, e := p.d.Dup(pid, fd); got != 0 || e != api.ErrForm {
			t.Fatal("Dup", pid, fd, got, e)
		}
		if o, last, e := p.d.Close(pid, fd); o != (api.Open{}) || last || e != api.ErrForm {
			t.Fatal("Close", pid, fd, o, last, e)
		}
		if e := p.d.Move(pid, fd, 8); e != api.ErrForm {
			t.Fatal("Move", pid, fd, e)
		}
		if o, e := p.d.Get(pid, fd); o != (api.Open{}) || e != api.ErrForm {
			t.Fatal("Get", pid, fd, o, e)
		}
	}
	for _, fd := range noFds() {
		wrong(0, fd)
		wrong(1, fd)
		wrong(2, fd)
	}
	wrong(0, 7)
	for fd := range 8 {
		wrong(2, fd)
	}
	p.told("refused")
	p.close(1, 3)
	wrong(1, 3)
	p.told("closed")
}

// TestP21_1Fork: the same descriptors, with the gaps between them; what they are of is shared with the first process' and with one another as there.
func TestP21_1Fork(t *testing.T) {
	p := pairOf(t, 3)
	p.open(3, fileAt(1, 10))
	p.open(3, api.Open{Kind: api.PipeIn, Ref: 2})
	p.open(3, api.Open{Kind: api.PipeOut, Ref: 2})
	p.dup(3, 0)
	p.close(3, 1)
	for _, to := range []int{0, 5, 1} {
		if e := p.fork(3, to); e != api.OK {
			t.Fatal(to, e)
		}
		p.told("forked")
		if got := p.d.List(to); !slices.Equal(got, []int{0, 2, 3}) {
			t.Error(got)
		}
		if !p.d.Same(3, 0, to, 0) || !p.d.Same(3, 0, to, 3) || !p.d.Same(to, 2, 3, 2) || p.d.Same(3, 0, to, 2) {
			t.Error(to, "does not share as it should")
		}
	}
	p.fork(5, 2)
	p.told("a fork of a fork")
	p.end(3)
	p.told("behind the end of the first one")
	p.begin(4)
	p.end(2)
	if e := p.fork(4, 2); e != api.OK || len(p.d.List(2)) != 0 || p.d.Room(2) != 8 {
		t.Error(e, p.d.List(2))
	}
	p.told("a fork of one without any")
}

// TestP21_1ForkApart: what is opened, doubled or closed behind a fork is one process' own matter.
func TestP21_1ForkApart(t *testing.T) {
	p := pairOf(t, 0)
	p.open(0, fileAt(1, 1))
	p.fork(0, 1)
	p.open(0, fileAt(2, 2))
	p.open(1, fileAt(2, 2))
	if p.d.Same(0, 1, 1, 1) {
		t.Error("two Opens share")
	}
	p.dup(1, 1)
	p.close(0, 0)
	if got := p.d.List(1); !slices.Equal(got, []int{0, 1, 2}) {
		t.Error(got)
	}
	if got := p.d.List(0); !slices.Equal(got, []int{1}) {
		t.Error(got)
	}
	p.told("apart")
}

// TestP21_1ForkErrors: of one that there is not ahead of all; then to one that may not be; then to one that there is, also to itself.
func TestP21_1ForkErrors(t *testing.T) {
	p := pairOf(t, 0, 5)
	p.open(0, fileAt(1, 1))
	for _, to := range noProcs() {
		if e := p.d.Fork(0, to); e != api.ErrRange {
			t.Fatal(to, e)
		}
		if e := p.d.Fork(1, to); e != api.ErrNoent {
			t.Fatal(to, e)
		}
	}
	for _, pair := range [][2]int{{0, 5}, {5, 0}, {0, 0}, {5, 5}} {
		if e := p.d.Fork(pair[0], pair[1]); e != api.ErrExist {
			t.Fatal(pair, e)
		}
	}
	for _, pair := range [][2]int{{1, 0}, {1, 1}, {4, 5}, {-1, 0}, {6, 6}, {-1, -1}, {2, 3}} {
		if e := p.d.Fork(pair[0], pair[1]); e != api.ErrNoent {
			t.Fatal(pair, e)
		}
	}
	p.told("refused")
	// A Fork that was refused has counted nobody: the descriptor is still the last one.
	if got := p.close(0, 0); !got.last {
		t.Error(got)
	}
}

// TestP21_1OpenKinds: each kind, and none; of one that is none ahead of the want of room.
func TestP21_1OpenKinds(t *testing.T) {
	p := pairOf(t, 0, 1)
	for range 8 {
		p.open(1, fileAt(0, 0))
	}
	for kind := range 256 {
		o := api.Open{Kind: api.OpenKind(kind), Ref: 4, Pos: 6}
		wanted, full := api.ErrRange, api.ErrRange
		if kind >= 1 && kind <= 3 {
			wanted, full = api.OK, api.ErrQuota
		}
		want := 0
		if wanted == api.OK {
			want = kind - 1
		}
		if fd, e := p.d.Open(0, o); fd != want || e != wanted {
			t.Fatal(kind, fd, e)
		}
		if fd, e := p.d.Open(1, o); fd != 0 || e != full {
			t.Fatal(kind, fd, e)
		}
		p.want.open(0, o)
	}
	p.told("all kinds")
	if got := p.d.List(0); !slices.Equal(got, []int{0, 1, 2}) {
		t.Error(got)
	}
}

// TestP21_1OpenOfAnything: what a descriptor is of is kept whole, whatever its numbers are.
func TestP21_1OpenOfAnything(t *testing.T) {
	p := pairOf(t, 0)
	numbers := []int{0, 1, -1, 96, 97, math.MinInt, math.MaxInt, 1 << 32}
	for _, ref := range numbers {
		for _, pos := range numbers {
			o := api.Open{Kind: api.PipeOut, Ref: ref, Pos: pos}
			fd := p.open(0, o)
			if got, e := p.d.Get(0, fd); got != o || e != api.OK {
				t.Fatal(o, got, e)
			}
			if got := p.close(0, fd); got != (closed{o, true, api.OK}) {
				t.Fatal(o, got)
			}
		}
	}
}

// TestE7Fds: MaxFds descriptors and no more, for each process by itself.
func TestE7Fds(t *testing.T) {
	p := pairOf(t, 0, 1)
	for n := range 8 {
		if p.d.Room(0) != 8-n {
			t.Fatal(n, p.d.Room(0))
		}
		if fd, e := p.d.Open(0, fileAt(n, n)); fd != n || e != api.OK {
			t.Fatal(n, fd, e)
		}
		p.want.open(0, fileAt(n, n))
		p.told("one more")
	}
	for range 3 {
		if fd, e := p.d.Open(0, fileAt(1, 1)); fd != 0 || e != api.ErrQuota {
			t.Fatal(fd, e)
		}
		if fd, e := p.d.Dup(0, 5); fd != 0 || e != api.ErrQuota {
			t.Fatal(fd, e)
		}
	}
	p.told("refused")
	// A Dup that was refused has counted nobody.
	if got := p.close(0, 5); got != (closed{fileAt(5, 5), true, api.OK}) {
		t.Error(got)
	}
	if fd, e := p.d.Dup(0, 6); fd != 5 || e != api.OK {
		t.Error(fd, e)
	}
	p.want.dup(0, 6)
	if fd, e := p.d.Dup(0, 6); fd != 0 || e != api.ErrQuota {
		t.Error(fd, e)
	}
	if fd, e := p.d.Open(1, fileAt(1, 1)); fd != 0 || e != api.OK {
		t.Error(fd, e)
	}
	p.want.open(1, fileAt(1, 1))
	p.told("behind it")
}

// TestE7AllProcesses: all processes with all descriptors, shared by all and by none.
func TestE7AllProcesses(t *testing.T) {
	p := pairOf(t, 0)
	p.open(0, fileAt(1, 0))
	for range 7 {
		p.dup(0, 0)
	}
	for pid := 1; pid < 6; pid++ {
		p.fork(0, pid)
	}
	p.move(3, 6, 77)
	p.told("one thing")
	for _, pid := range []int{4, 2, 0, 1, 5} {
		if gone := p.end(pid); len(gone) != 0 {
			t.Error(pid, gone)
		}
	}
	if gone := p.end(3); !slices.Equal(gone, []api.Open{fileAt(1, 77)}) {
		t.Error(gone)
	}
	for pid := range 6 {
		p.begin(pid)
		for fd := range 8 {
			p.open(pid, fileAt(pid, fd))
		}
	}
	p.told("as many things as descriptors")
	for pid := range 6 {
		if gone := p.end(pid); len(gone) != 8 || gone[7] != fileAt(pid, 7) {
			t.Error(pid, gone)
		}
	}
	p.told("none")
}

// TestP21_3Least: the least descriptor that there is not, of Open and of Dup, whatever was closed ahead.
func TestP21_3Least(t *testing.T) {
	for _, gaps := range [][]int{{0}, {7}, {3, 1}, {1, 3}, {6, 0, 2}, {7, 6, 5}, {0, 1, 2, 3, 4, 5, 6, 7}, {7, 5, 3, 1}} {
		for _, byDup := range []bool{false, true} {
			p := pairOf(t, 2)
			p.open(2, fileAt(0, 0))
			p.fork(2, 0)
			for n := 1; n < 8; n++ {
				p.open(2, fileAt(n, 0))
			}
			for _, fd := range gaps {
				p.close(2, fd)
			}
			sorted := slices.Sorted(slices.Values(gaps))
			for _, want := range sorted {
				var got int
				if rest := p.d.List(2); byDup && len(rest) > 0 {
					got = p.dup(2, rest[len(rest)-1])
				} else {
					got = p.open(2, fileAt(9, want))
				}
				if got != want {
					t.Error(gaps, byDup, got, "not", want)
				}
			}
			p.told("filled")
		}
	}
}

// TestP21_1Dup: what is doubled is shared, whichever of them it is doubled of; the rest is not.
func TestP21_1Dup(t *testing.T) {
	p := pairOf(t, 0)
	p.open(0, fileAt(1, 3))
	p.open(0, fileAt(1, 3))
	if fd := p.dup(0, 1); fd != 2 {
		t.Error(fd)
	}
	if fd := p.dup(0, 2); fd != 3 {
		t.Error(fd)
	}
	if !p.d.Same(0, 1, 0, 2) || !p.d.Same(0, 3, 0, 1) || p.d.Same(0, 0, 0, 1) || p.d.Same(0, 3, 0, 0) {
		t.Error("who shares")
	}
	p.told("doubled")
	p.close(0, 1)
	if !p.d.Same(0, 2, 0, 3) {
		t.Error("those that are left do not share")
	}
	p.told("the first one closed")
}

// TestP21_1Close: what a descriptor was of is told, where it stands now, of each that shares it; only with the last one nobody has it.
func TestP21_1Close(t *testing.T) {
	p := pairOf(t, 0)
	p.open(0, fileAt(4, 1))
	p.dup(0, 0)
	p.fork(0, 2)
	p.open(0, fileAt(4, 1))
	p.move(2, 1, 30)
	if got := p.close(0, 2); got != (closed{fileAt(4, 1), true, api.OK}) {
		t.Error(got)
	}
	for n, at := range [][2]int{{0, 0}, {2, 1}, {0, 1}, {2, 0}} {
		if got := p.close(at[0], at[1]); got != (closed{fileAt(4, 30), n == 3, api.OK}) {
			t.Error(n, got)
		}
		p.told("closed")
		if got := p.close(at[0], at[1]); got != (closed{e: api.ErrForm}) {
			t.Error(n, got)
		}
		p.told("closed twice")
	}
	if p.d.Room(0) != 8 || p.d.Room(2) != 8 {
		t.Error("processes are there without any")
	}
}

// TestP21_1CloseKinds: the ends of a pipe are told as they were opened.
func TestP21_1CloseKinds(t *testing.T) {
	p := pairOf(t, 1)
	all := []api.Open{{Kind: api.PipeIn, Ref: 3}, {Kind: api.PipeOut, Ref: 3}, {Kind: api.FileOpen, Ref: 3}}
	for _, o := range all {
		p.open(1, o)
	}
	for fd, o := range all {
		if got := p.close(1, fd); got != (closed{o, true, api.OK}) {
			t.Error(got)
		}
	}
}

// TestP21_1EndOrder: what is told is in the order in which the last descriptor of each is closed, from 0 on.
func TestP21_1EndOrder(t *testing.T) {
	p := pairOf(t, 0)
	a, b, c := fileAt(1, 1), api.Open{Kind: api.PipeIn, Ref: 2}, api.Open{Kind: api.PipeOut, Ref: 2, Pos: 3}
	p.open(0, a)
	p.open(0, b)
	p.open(0, c)
	p.dup(0, 0)
	p.dup(0, 1)
	p.dup(0, 0)
	// 0: a, 1: b, 2: c, 3: a, 4: b, 5: a
	if gone := p.end(0); !slices.Equal(gone, []api.Open{c, b, a}) {
		t.Error(gone)
	}
	p.told("ended")
}

// TestP21_1EndShared: what another process has still is not told; of what is told it is where it stood at last.
func TestP21_1EndShared(t *testing.T) {
	p := pairOf(t, 4)
	p.open(4, fileAt(1, 0))
	p.open(4, fileAt(2, 0))
	p.fork(4, 1)
	p.open(4, fileAt(3, 0))
	p.dup(4, 2)
	p.close(1, 0)
	p.move(4, 0, 11)
	p.move(1, 1, 12)
	p.move(4, 3, 13)
	if gone := p.end(4); !slices.Equal(gone, []api.Open{fileAt(1, 11), fileAt(3, 13)}) {
		t.Error(gone)
	}
	p.told("one ended")
	if got := p.close(1, 1); got != (closed{fileAt(2, 12), true, api.OK}) {
		t.Error(got)
	}
	if gone := p.end(1); len(gone) != 0 {
		t.Error(gone)
	}
	p.told("all ended")
}

// TestP21_1EndOfNone: a process without descriptors leaves nothing; twice it cannot end.
func TestP21_1EndOfNone(t *testing.T) {
	p := pairOf(t, 0, 5)
	if gone, e := p.d.End(5); len(gone) != 0 || e != api.OK {
		t.Error(gone, e)
	}
	p.want.end(5)
	p.told("ended")
	if gone, e := p.d.End(5); len(gone) != 0 || e != api.ErrNoent {
		t.Error(gone, e)
	}
	p.told("twice")
}

// TestE4End: what ends leaves nothing: whoever begins there has none, and nobody shares with it.
func TestE4End(t *testing.T) {
	p := pairOf(t, 0, 1)
	p.open(0, fileAt(1, 5))
	p.fork(0, 2)
	p.end(0)
	p.begin(0)
	p.told("begun again")
	p.open(0, fileAt(1, 5))
	if p.d.Same(0, 0, 2, 0) {
		t.Error("it shares with what was there")
	}
	p.move(0, 0, 50)
	if o, _ := p.d.Get(2, 0); o.Pos != 5 {
		t.Error(o)
	}
	p.told("moved")
}

// TestP21_4Move: one place for all that share, whoever moves it; another Open of the same stands by itself.
func TestP21_4Move(t *testing.T) {
	p := pairOf(t, 0)
	p.open(0, fileAt(7, 2))
	p.open(0, fileAt(7, 2))
	p.dup(0, 0)
	p.fork(0, 3)
	p.dup(3, 2)
	p.fork(3, 5)
	sharing := [][2]int{{0, 0}, {0, 2}, {3, 0}, {3, 2}, {3, 3}, {5, 0}, {5, 2}, {5, 3}}
	for n, mover := range sharing {
		p.move(mover[0], mover[1], 100+n)
		for _, other := range sharing {
			if o, e := p.d.Get(other[0], other[1]); o != fileAt(7, 100+n) || e != api.OK {
				t.Error(mover, other, o, e)
			}
		}
		for _, pid := range []int{0, 3, 5} {
			if o, _ := p.d.Get(pid, 1); o != fileAt(7, 2) {
				t.Error(mover, pid, o)
			}
		}
		p.told("moved")
	}
}

// TestP21_1MoveAnywhere: no place is refused, and no kind.
func TestP21_1MoveAnywhere(t *testing.T) {
	p := pairOf(t, 0)
	for kind := api.FileOpen; kind <= api.PipeOut; kind++ {
		fd := p.open(0, api.Open{Kind: kind, Ref: 2, Pos: 1})
		for _, pos := range []int{0, -1, 96, 97, math.MinInt, math.MaxInt, 1 << 32} {
			if e := p.d.Move(0, fd, pos); e != api.OK {
				t.Error(kind, pos, e)
			}
			if o, e := p.d.Get(0, fd); o != (api.Open{Kind: kind, Ref: 2, Pos: pos}) || e != api.OK {
				t.Error(kind, pos, o, e)
			}
		}
	}
}

// TestP21_2Told: what is told of what there is and of what there is not.
func TestP21_2Told(t *testing.T) {
	p := pairOf(t, 0, 4)
	p.open(0, fileAt(1, 1))
	p.open(0, fileAt(2, 2))
	p.open(0, fileAt(3, 3))
	p.close(0, 1)
	p.fork(0, 5)
	for _, pid := range append(noProcs(), 1, 2, 3) {
		if p.d.Room(pid) != 0 || len(p.d.List(pid)) != 0 {
			t.Error(pid, p.d.Room(pid), p.d.List(pid))
		}
	}
	for pid, want := range map[int][]int{0: {0, 2}, 4: {}, 5: {0, 2}} {
		if got := p.d.List(pid); !slices.Equal(got, want) || p.d.Room(pid) != 8-len(want) {
			t.Error(pid, got, p.d.Room(pid))
		}
	}
	for _, c := range []struct {
		p, a, q, b int
		want       bool
	}{
		{0, 0, 0, 0, true}, {0, 0, 5, 0, true}, {5, 2, 0, 2, true}, {5, 2, 5, 2, true},
		{0, 0, 0, 2, false}, {0, 0, 5, 2, false},
		{0, 1, 0, 1, false}, {0, 1, 5, 1, false}, {4, 0, 4, 0, false}, {1, 0, 1, 0, false},
		{0, 0, 1, 0, false}, {1, 0, 0, 0, false}, {0, 0, 0, 8, false}, {0, -1, 0, -1, false}, {-1, 0, -1, 0, false}, {6, 0, 0, 0, false},
	} {
		if got := p.d.Same(c.p, c.a, c.q, c.b); got != c.want {
			t.Error(c, got)
		}
	}
	p.told("all")
}

func TestP1Nil(t *testing.T) {
	var d *Table
	for _, n := range append(noFds(), 0, 1, 5, 7) {
		for _, e := range []api.Errno{d.Begin(n), d.Fork(n, 0), d.Fork(0, n), d.Move(n, 0, 0), d.Move(0, n, 0), d.Move(0, 0, n)} {
			if e != api.ErrNil {
				t.Fatal(n, e)
			}
		}
		if gone, e := d.End(n); len(gone) != 0 || e != api.ErrNil {
			t.Error(n, gone, e)
		}
		if fd, e := d.Open(n, fileAt(n, n)); fd != 0 || e != api.ErrNil {
			t.Error(n, fd, e)
		}
		if fd, e := d.Open(n, api.Open{Ref: n}); fd != 0 || e != api.ErrNil {
			t.Error(n, fd, e)
		}
		if fd, e := d.Dup(n, n); fd != 0 || e != api.ErrNil {
			t.Error(n, fd, e)
		}
		if o, last, e := d.Close(n, n); o != (api.Open{}) || last || e != api.ErrNil {
			t.Error(n, o, last, e)
		}
		if o, e := d.Get(n, n); o != (api.Open{}) || e != api.ErrNil {
			t.Error(n, o, e)
		}
		if len(d.List(n)) != 0 || d.Room(n) != 0 || d.Same(n, n, n, n) {
			t.Error(n)
		}
	}
	if d.Copy() != nil {
		t.Error("a copy of nil")
	}
}

// TestP3Lists: lists that were handed out are the caller's, with the room behind their end.
func TestP3Lists(t *testing.T) {
	p := pairOf(t, 0, 1)
	for n := range 5 {
		p.open(0, fileAt(n, n))
		p.open(1, fileAt(n, n))
	}
	a, b := p.d.List(0), p.d.List(0)
	clear(a[:cap(a)])
	if !slices.Equal(b, []int{0, 1, 2, 3, 4}) {
		t.Error(b)
	}
	p.told("behind the caller's change")
	p.close(0, 3)
	if !slices.Equal(b, []int{0, 1, 2, 3, 4}) {
		t.Error(b)
	}
	first := p.end(0)
	kept := slices.Clone(first)
	second := p.end(1)
	clear(second[:cap(second)])
	if !slices.Equal(first, kept) {
		t.Error(first)
	}
	clear(first[:cap(first)])
	p.told("behind the caller's change of what ended")
}
