package vm

import (
	"slices"
	"testing"

	"embrasure/api"
)

func chances(seed uint32) func(int) int {
	return func(n int) int {
		seed = seed*1664525 + 1013904223
		return int(seed>>8) % n
	}
}

// step does one thing by chance, seldom a wrong one.
func (p *pair) step(chance func(int) int, pages int) {
	p.t.Helper()
	pid, to, page := chance(6), chance(6), chance(pages)
	addr := chance(pages * 32)
	switch chance(60) {
	case 0:
		pid = noProcs()[chance(len(noProcs()))]
	case 1:
		to = noProcs()[chance(len(noProcs()))]
	case 2:
		page = noPages()[chance(len(noPages()))]
	case 3:
		addr = noAddresses()[chance(len(noAddresses()))]
	}
	switch chance(16) {
	case 0:
		p.begin(pid)
	case 1:
		p.end(pid)
	case 2, 3, 4:
		p.fork(pid, to)
	case 5, 6, 7:
		p.mapIt(pid, page)
	case 8:
		p.unmap(pid, page)
	case 9, 10:
		p.fill(pid, addr, bytesOf(chance(256), chance(70))...)
	default:
		p.poke(pid, addr, byte(chance(256)))
	}
}

// TestP19_4AnyOrder: in any order of calls each process has bytes of its own, in the frames that are asked for; at last all end, and all frames are free (P19.6).
func TestP19_4AnyOrder(t *testing.T) {
	for seed := range uint32(60) {
		chance := chances(seed)
		frames := []int{1, 2, 3, 5, 8, 16, 64}[chance(7)]
		pages := []int{2, 4, 16}[chance(3)]
		p := pairOf(t, frames)
		for n := range 600 {
			p.step(chance, pages)
			if n%10 == 0 {
				p.told("any order")
			}
		}
		p.told("all of it")
		for pid := range 6 {
			p.end(pid)
		}
		p.told("all have ended")
		if p.v.Left() != frames {
			t.Fatal(seed, p.v.Left())
		}
		for frame := range frames {
			if !p.v.frames.memory.Clean(frame) {
				t.Fatal(seed, frame, "what ended left something")
			}
		}
	}
}

// TestP19_6AllFree: when all spaces have ended all frames are free, and can all be given.
func TestP19_6AllFree(t *testing.T) {
	p := pairOf(t, 16)
	for range 3 {
		p.begin(0)
		for page := range 16 {
			p.mapIt(0, page)
		}
		p.fill(0, 0, bytesOf(0, 300)...)
		p.fork(0, 4)
		p.fork(4, 1)
		p.fill(4, 20, bytesOf(9, 100)...)
		p.unmap(1, 3)
		for _, pid := range []int{0, 1, 4} {
			if p.v.Left() == 16 {
				t.Error("free already")
			}
			p.end(pid)
		}
		if p.v.Left() != 16 {
			t.Error(p.v.Left())
		}
		for frame := range 16 {
			if p.v.Refs(frame) != 0 {
				t.Error(frame, p.v.Refs(frame))
			}
		}
		p.told("all have ended")
	}
	if p.v.Copies() != 12 {
		t.Error(p.v.Copies())
	}
}

// TestP4Copy: a Copy has the same; what becomes of the one changes nothing of the other one.
func TestP4Copy(t *testing.T) {
	p := pairOf(t, 4)
	p.begin(0)
	p.mapIt(0, 0, 1, 2)
	p.fill(0, 0, bytesOf(0, 40)...)
	p.fork(0, 1)
	p.poke(1, 3, 99)
	q := p.copied()
	if q.v == nil || q.v == p.v {
		t.Fatal("no other one")
	}
	q.told("the copy")
	for _, change := range []func(*pair){
		func(x *pair) { x.poke(0, 1, 55) },
		func(x *pair) { x.poke(1, 3, 56) },
		func(x *pair) { x.mapIt(0, 9) },
		func(x *pair) { x.unmap(1, 2) },
		func(x *pair) { x.unmap(0, 0) },
		func(x *pair) { x.fork(1, 5) },
		func(x *pair) { x.begin(4) },
		func(x *pair) { x.poke(5, 3, 57) },
		func(x *pair) { x.end(1) },
		func(x *pair) { x.end(0) },
	} {
		a, b := q.copied(), q.copied()
		change(a)
		b.told("beside the first one")
		change(b)
		a.told("the first one")
		b.told("the second one")
		change(q)
		a.told("beside the one it came of")
		p.told("the one at first")
	}
}

// TestP4CopiesPlay: copies of copies go on their own ways.
func TestP4CopiesPlay(t *testing.T) {
	for seed := range uint32(10) {
		chance := chances(seed + 1000)
		all := []*pair{pairOf(t, 7)}
		for range 400 {
			p := all[chance(len(all))]
			p.step(chance, 4)
			if len(all) < 4 && chance(30) == 0 {
				all = append(all, p.copied())
			}
		}
		for _, p := range all {
			p.told("behind all")
		}
	}
}

// TestP6Alike: the same calls answer the same, whatever else is done beside them.
func TestP6Alike(t *testing.T) {
	run := func() []int {
		chance := chances(5)
		p := pairOf(t, 9)
		var l []int
		for range 500 {
			p.step(chance, 16)
			for pid := range 6 {
				l = append(l, p.v.Pages(pid)...)
				for page := range 16 {
					frame, _ := p.v.Frame(pid, page)
					l = append(l, frame)
				}
			}
			l = append(l, p.v.Left(), p.v.Copies())
		}
		return l
	}
	if !slices.Equal(run(), run()) {
		t.Error("not alike")
	}
}

// TestP1Hostile: every call, at numbers of all kinds, answers as it is told.
func TestP1Hostile(t *testing.T) {
	p := pairOf(t, 3)
	p.begin(0)
	p.mapIt(0, 0, 15)
	numbers := append(append(append(noProcs(), noPages()...), noAddresses()...), 0, 1, 5, 15, 31, 480, 511)
	for _, a := range numbers {
		p.begin(a)
		for _, b := range numbers {
			p.fork(a, b)
			p.mapIt(a, b)
			p.poke(a, b, 3)
			p.fill(a, b, 1, 2, 3)
			p.unmap(a, b)
			want, wanted := p.want.peek(a, b)
			if got, e := p.v.Peek(a, b); got != want || e != wanted {
				t.Fatal(a, b, got, e)
			}
		}
		p.told("hostile")
		p.end(a)
	}
	p.end(0)
	if e := p.v.Fill(0, 0, make([]byte, 1<<20)...); e != api.ErrNoent {
		t.Error(e)
	}
	p.begin(0)
	if e := p.v.Fill(0, 0, make([]byte, 1<<20)...); e != api.ErrRange {
		t.Error(e)
	}
}
