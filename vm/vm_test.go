package vm

import (
	"math"
	"slices"
	"testing"

	"embrasure/api"
)

func TestP19_1Example(t *testing.T) {
	v := New(4)
	for _, e := range []api.Errno{v.Begin(0), v.Map(0, 0), v.Poke(0, 5, 7), v.Fork(0, 1), v.Poke(1, 5, 8)} {
		if e != api.OK {
			t.Fatal(e)
		}
	}
	if v.Left() != 2 || v.Copies() != 1 {
		t.Error(v.Left(), v.Copies())
	}
	if b, e := v.Peek(0, 5); b != 7 || e != api.OK {
		t.Error(b, e)
	}
	if b, e := v.Peek(1, 5); b != 8 || e != api.OK {
		t.Error(b, e)
	}
}

// TestP19_1New: from 1 to MaxFrames frames, which are all free, and no space.
func TestP19_1New(t *testing.T) {
	for frames := 1; frames <= 64; frames++ {
		p := pairOf(t, frames)
		if p.v.Left() != frames {
			t.Fatal(frames, p.v.Left())
		}
		p.told("a new one")
	}
	p := pairOf(t, 2)
	p.begin(0)
	p.mapIt(0, 0)
	p.poke(0, 0, 1)
	pairOf(t, 2).told("the next one")
}

func TestE7New(t *testing.T) {
	for _, frames := range []int{0, 65, -1, 66, -64, 128, 1 << 32, 1<<32 + 1, math.MinInt, math.MaxInt} {
		if v := New(frames); v != nil {
			t.Error(frames)
		}
	}
}

// TestP19_1Begin: each process once; what there is stays as it was.
func TestP19_1Begin(t *testing.T) {
	p := pairOf(t, 2)
	for _, pid := range noProcs() {
		if e := p.v.Begin(pid); e != api.ErrRange {
			t.Fatal(pid, e)
		}
	}
	p.told("refused")
	for _, pid := range []int{5, 0, 3, 1, 2, 4} {
		if e := p.v.Begin(pid); e != api.OK {
			t.Fatal(pid, e)
		}
		p.want.begin(pid)
		p.told("one more")
		p.mapIt(pid, pid, 15)
		for range 2 {
			if e := p.v.Begin(pid); e != api.ErrExist {
				t.Fatal(pid, e)
			}
		}
		p.told("once more")
	}
	for _, pid := range noProcs() {
		if e := p.v.Begin(pid); e != api.ErrRange {
			t.Fatal(pid, e)
		}
	}
	p.told("all")
}

// TestP19_1BeginAgain: a space that ended begins without pages.
func TestP19_1BeginAgain(t *testing.T) {
	p := pairOf(t, 3)
	p.begin(2)
	p.mapIt(2, 0, 7)
	p.poke(2, 230, 9)
	p.end(2)
	if e := p.v.Begin(2); e != api.OK {
		t.Fatal(e)
	}
	p.want.begin(2)
	p.told("again")
	if got := p.v.Pages(2); len(got) != 0 {
		t.Error(got)
	}
	if b, e := p.v.Peek(2, 230); b != 0 || e != api.ErrFault {
		t.Error(b, e)
	}
}

// TestP19_1NoSpace: of a space that there is not, in each call, at all other arguments.
func TestP19_1NoSpace(t *testing.T) {
	p := pairOf(t, 4)
	p.begin(1)
	p.mapIt(1, 0)
	p.poke(1, 3, 3)
	p.fork(1, 4)
	p.begin(3)
	p.end(3)
	for _, pid := range append(noProcs(), 0, 2, 3, 5) {
		if e := p.v.End(pid); e != api.ErrNoent {
			t.Fatal("End", pid, e)
		}
		for _, to := range append(noProcs(), 0, 1, 2, 3, 4, 5, pid) {
			if e := p.v.Fork(pid, to); e != api.ErrNoent {
				t.Fatal("Fork", pid, to, e)
			}
		}
		for _, page := range append(noPages(), 0, 1, 15) {
			if p.v.Map(pid, page) != api.ErrNoent || p.v.Unmap(pid, page) != api.ErrNoent {
				t.Fatal("Map, Unmap", pid, page)
			}
		}
		for _, addr := range append(noAddresses(), 0, 3, 32, 511) {
			if p.v.Poke(pid, addr, 1) != api.ErrNoent || p.v.Fill(pid, addr, 1, 2) != api.ErrNoent || p.v.Fill(pid, addr) != api.ErrNoent {
				t.Fatal("Poke, Fill", pid, addr)
			}
			if b, e := p.v.Peek(pid, addr); b != 0 || e != api.ErrNoent {
				t.Fatal("Peek", pid, addr, b, e)
			}
		}
	}
	p.told("refused")
}

// TestP19_1End: the pages are no more, the others' stay; once.
func TestP19_1End(t *testing.T) {
	p := pairOf(t, 6)
	p.begin(0)
	p.mapIt(0, 0, 1, 2)
	p.fill(0, 0, bytesOf(0, 64)...)
	p.fork(0, 1)
	p.begin(2)
	p.mapIt(2, 1)
	p.poke(2, 40, 200)
	p.poke(1, 1, 99)
	for _, pid := range []int{0, 2, 1} {
		if e := p.v.End(pid); e != api.OK {
			t.Fatal(pid, e)
		}
		p.want.end(pid)
		p.told("one less")
		if e := p.v.End(pid); e != api.ErrNoent {
			t.Fatal(pid, e)
		}
		p.told("twice")
	}
	if p.v.Left() != 6 {
		t.Error(p.v.Left())
	}
}

// TestP19_1Fork: the same pages, in the same frames, also those in none; no frame is needed.
func TestP19_1Fork(t *testing.T) {
	p := pairOf(t, 2)
	p.begin(3)
	p.mapIt(3, 2, 0, 15)
	p.poke(3, 5, 7)
	p.poke(3, 511, 8)
	for many, to := range []int{0, 5, 1} {
		if e := p.v.Fork(3, to); e != api.OK {
			t.Fatal(to, e)
		}
		p.want.fork(3, to)
		p.told("forked")
		if got := p.v.Pages(to); !slices.Equal(got, []int{0, 2, 15}) {
			t.Error(got)
		}
		if p.v.Refs(0) != many+2 || p.v.Refs(1) != many+2 || p.v.Left() != 0 || p.v.Copies() != 0 {
			t.Error(p.v.Refs(0), p.v.Refs(1), p.v.Left(), p.v.Copies())
		}
		if b, e := p.v.Peek(to, 511); b != 8 || e != api.OK {
			t.Error(b, e)
		}
	}
	p.fork(5, 2)
	p.told("a fork of a fork")
	p.begin(4)
	p.end(2)
	if e := p.v.Fork(4, 2); e != api.OK || len(p.v.Pages(2)) != 0 {
		t.Error(e, p.v.Pages(2))
	}
	p.want.fork(4, 2)
	p.told("a fork of one without pages")
}

// TestP19_1ForkErrors: of one that there is not ahead of all; then to one that may not be; then to one that there is, also to itself.
func TestP19_1ForkErrors(t *testing.T) {
	p := pairOf(t, 2)
	p.begin(0)
	p.begin(5)
	p.mapIt(0, 1)
	p.poke(0, 33, 1)
	for _, to := range noProcs() {
		if e := p.v.Fork(0, to); e != api.ErrRange {
			t.Fatal(to, e)
		}
		if e := p.v.Fork(1, to); e != api.ErrNoent {
			t.Fatal(to, e)
		}
	}
	for _, pair := range [][2]int{{0, 5}, {5, 0}, {0, 0}, {5, 5}} {
		if e := p.v.Fork(pair[0], pair[1]); e != api.ErrExist {
			t.Fatal(pair, e)
		}
	}
	for _, pair := range [][2]int{{1, 0}, {1, 1}, {4, 5}, {-1, 0}, {6, 6}, {-1, -1}, {2, 3}} {
		if e := p.v.Fork(pair[0], pair[1]); e != api.ErrNoent {
			t.Fatal(pair, e)
		}
	}
	p.told("refused")
}

// TestP19_1Map: each page once, in no frame; pages that are none ahead of those that are mapped.
func TestP19_1Map(t *testing.T) {
	p := pairOf(t, 1)
	p.begin(0)
	p.begin(1)
	for _, page := range []int{15, 0, 7, 1, 14, 2, 3, 4, 5, 6, 8, 9, 10, 11, 12, 13} {
		if e := p.v.Map(0, page); e != api.OK {
			t.Fatal(page, e)
		}
		p.want.mapIt(0, page)
		p.told("one more")
		if e := p.v.Map(0, page); e != api.ErrExist {
			t.Fatal(page, e)
		}
		p.told("once more")
	}
	for _, page := range noPages() {
		if p.v.Map(0, page) != api.ErrRange || p.v.Map(1, page) != api.ErrRange {
			t.Fatal(page)
		}
	}
	p.told("refused")
	p.poke(0, 0, 5)
	if e := p.v.Map(0, 0); e != api.ErrExist {
		t.Error(e)
	}
	p.told("one that was written")
}

// TestP19_1Unmap: each page that is mapped, in a frame or in none; it may be mapped again, and is 0 then.
func TestP19_1Unmap(t *testing.T) {
	p := pairOf(t, 3)
	p.begin(0)
	p.mapIt(0, 0, 3, 15)
	p.fill(0, 100, 1, 2, 3)
	p.poke(0, 0, 9)
	for _, page := range append(noPages(), noPages()...) {
		if e := p.v.Unmap(0, page); e != api.ErrRange {
			t.Fatal(page, e)
		}
	}
	for _, page := range []int{1, 2, 4, 14} {
		if e := p.v.Unmap(0, page); e != api.ErrFault {
			t.Fatal(page, e)
		}
	}
	p.told("refused")
	for many, page := range []int{3, 15, 0} {
		if e := p.v.Unmap(0, page); e != api.OK {
			t.Fatal(page, e)
		}
		p.want.unmap(0, page)
		p.told("one less")
		if e := p.v.Unmap(0, page); e != api.ErrFault {
			t.Fatal(page, e)
		}
		if want := []int{2, 2, 3}[many]; p.v.Left() != want {
			t.Fatal(page, p.v.Left())
		}
	}
	p.mapIt(0, 3)
	if b, e := p.v.Peek(0, 100); b != 0 || e != api.OK {
		t.Error(b, e)
	}
	p.told("mapped again")
}

// TestP19_1UnmapOfOne: of pages that lie in one frame, what one process has of it alone.
func TestP19_1UnmapOfOne(t *testing.T) {
	p := pairOf(t, 1)
	p.begin(0)
	p.mapIt(0, 4)
	p.poke(0, 130, 6)
	p.fork(0, 1)
	p.fork(0, 2)
	for many, pid := range []int{1, 0, 2} {
		if e := p.v.Unmap(pid, 4); e != api.OK {
			t.Fatal(pid, e)
		}
		p.want.unmap(pid, 4)
		p.told("one less")
		if got := p.v.Refs(0); got != 2-many {
			t.Fatal(pid, got)
		}
	}
	if p.v.Left() != 1 || p.v.Copies() != 0 {
		t.Error(p.v.Left(), p.v.Copies())
	}
}

// TestP19_3Told: what is told of what there is and of what there is not.
func TestP19_3Told(t *testing.T) {
	p := pairOf(t, 3)
	p.begin(0)
	p.mapIt(0, 15, 0, 9)
	p.poke(0, 300, 1)
	p.poke(0, 0, 1)
	p.fork(0, 5)
	p.poke(5, 1, 1)
	p.told("all")
	for _, pid := range append(noProcs(), 1, 2, 3, 4) {
		if got := p.v.Pages(pid); len(got) != 0 {
			t.Error(pid, got)
		}
		for _, page := range append(noPages(), 0, 9, 15) {
			if frame, ok := p.v.Frame(pid, page); frame != 0 || ok {
				t.Error(pid, page, frame, ok)
			}
		}
	}
	for _, pid := range []int{0, 5} {
		if got := p.v.Pages(pid); !slices.Equal(got, []int{0, 9, 15}) {
			t.Error(pid, got)
		}
		for _, page := range append(noPages(), 1, 8, 10, 14, 15) {
			if frame, ok := p.v.Frame(pid, page); frame != 0 || ok {
				t.Error(pid, page, frame, ok)
			}
		}
	}
	for _, c := range []struct{ pid, page, frame int }{{0, 9, 0}, {5, 9, 0}, {0, 0, 1}, {5, 0, 2}} {
		if frame, ok := p.v.Frame(c.pid, c.page); frame != c.frame || !ok {
			t.Error(c, frame, ok)
		}
	}
	for frame, want := range []int{2, 1, 1, 0, 0} {
		if got := p.v.Refs(frame); got != want {
			t.Error(frame, got)
		}
	}
	for _, frame := range append(noFrames(), 3, 4, 63) {
		if got := p.v.Refs(frame); got != 0 {
			t.Error(frame, got)
		}
	}
	if p.v.Left() != 0 || p.v.Copies() != 1 {
		t.Error(p.v.Left(), p.v.Copies())
	}
}

// TestE7All: all processes with all pages in all frames.
func TestE7All(t *testing.T) {
	p := pairOf(t, 64)
	for pid := range 6 {
		p.begin(pid)
		for page := range 16 {
			p.mapIt(pid, page)
			p.poke(pid, page*32+pid, byte(page))
		}
	}
	p.told("all")
	if p.v.Left() != 0 || p.v.Copies() != 0 {
		t.Error(p.v.Left(), p.v.Copies())
	}
	if frame, ok := p.v.Frame(3, 15); frame != 63 || !ok {
		t.Error(frame, ok)
	}
	if p.v.Poke(4, 0, 1) != api.ErrSpace || p.v.Fill(5, 0, bytesOf(0, 512)...) != api.ErrSpace || p.v.Fill(3, 0, bytesOf(0, 512)...) != api.OK {
		t.Error("there is no room")
	}
	p.want.fill(3, 0, bytesOf(0, 512)...)
	p.told("behind it")
}

func TestP1Nil(t *testing.T) {
	var v *Vm
	for _, n := range append(noPages(), 0, 1, 5, 15) {
		for _, e := range []api.Errno{v.Begin(n), v.End(n), v.Fork(n, 0), v.Fork(0, n), v.Map(0, n), v.Map(n, 0), v.Unmap(0, n), v.Unmap(n, 0), v.Poke(0, n, 1), v.Poke(n, 0, 1), v.Fill(0, n), v.Fill(n, 0, 1, 2)} {
			if e != api.ErrNil {
				t.Fatal(n, e)
			}
		}
		if b, e := v.Peek(n, n); b != 0 || e != api.ErrNil {
			t.Error(n, b, e)
		}
		if frame, ok := v.Frame(n, n); frame != 0 || ok {
			t.Error(n, frame, ok)
		}
		if len(v.Pages(n)) != 0 || v.Refs(n) != 0 {
			t.Error(n)
		}
	}
	if v.Left() != 0 || v.Copies() != 0 || v.Copy() != nil {
		t.Error("nil has something")
	}
}

// TestP3Lists: pages that were handed out are the caller's.
func TestP3Lists(t *testing.T) {
	p := pairOf(t, 2)
	p.begin(0)
	p.mapIt(0, 3, 8, 1)
	a, b := p.v.Pages(0), p.v.Pages(0)
	clear(a[:cap(a)])
	if !slices.Equal(b, []int{1, 3, 8}) {
		t.Error(b)
	}
	p.told("behind the caller's change")
	p.unmap(0, 3)
	if !slices.Equal(b, []int{1, 3, 8}) {
		t.Error(b)
	}
}

// TestP3FillLeavesBytes: what was handed in stays as it is, and is not kept.
func TestP3FillLeavesBytes(t *testing.T) {
	p := pairOf(t, 3)
	p.begin(0)
	p.mapIt(0, 0, 1)
	room := bytesOf(0, 48)
	p.fill(0, 4, room[:40]...)
	p.fill(0, 60, room[:40]...)
	p.fill(0, 500, room[:40]...)
	if !slices.Equal(room, bytesOf(0, 48)) {
		t.Error(room)
	}
	clear(room)
	p.told("behind the caller's change")
	p.poke(0, 5, 77)
	p.unmap(0, 0)
	if !slices.Equal(room, make([]byte, 48)) {
		t.Error(room)
	}
}
