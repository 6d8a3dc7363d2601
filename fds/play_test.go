package fds

import (
	"slices"
	"testing"

	"embrasure/api"
)

func chances(seed uint32) func(int) int {
	return func(n int) int {
		seed = seed*1664525 + 1013904223
		return int(seed>>8) % n
	}
}

// step does one thing by chance, seldom a wrong one.
func (p *pair) step(chance func(int) int) {
	p.t.Helper()
	pid, to, fd := chance(6), chance(6), chance(8)
	o := api.Open{Kind: api.OpenKind(1 + chance(3)), Ref: chance(4), Pos: chance(97)}
	switch chance(60) {
	case 0:
		pid = noProcs()[chance(len(noProcs()))]
	case 1:
		to = noProcs()[chance(len(noProcs()))]
	case 2:
		fd = noFds()[chance(len(noFds()))]
	case 3:
		o.Kind = api.OpenKind(chance(256))
	}
	switch chance(20) {
	case 0, 1:
		p.begin(pid)
	case 2:
		p.end(pid)
	case 3, 4, 5:
		p.fork(pid, to)
	case 6, 7, 8, 9:
		p.open(pid, o)
	case 10, 11, 12:
		p.dup(pid, fd)
	case 13, 14, 15:
		p.move(pid, fd, chance(200)-50)
	default:
		p.close(pid, fd)
	}
}

// TestE1AnyOrder: in any order of calls all is as it is told.
func TestE1AnyOrder(t *testing.T) {
	for seed := range uint32(80) {
		chance := chances(seed)
		p := pairOf(t)
		for n := range 600 {
			p.step(chance)
			if n%10 == 0 {
				p.told("any order")
			}
		}
		p.told("all of it")
		for pid := range 6 {
			p.end(pid)
		}
		p.told("all have ended")
	}
}

// TestP4Copy: a Copy has the same, with what is shared; what becomes of the one changes nothing of the other one.
func TestP4Copy(t *testing.T) {
	p := pairOf(t, 0, 2)
	p.open(0, fileAt(1, 1))
	p.open(0, fileAt(2, 2))
	p.dup(0, 0)
	p.fork(0, 1)
	p.open(1, api.Open{Kind: api.PipeIn, Ref: 1})
	q := p.copied()
	if q.d == nil || q.d == p.d {
		t.Fatal("no other one")
	}
	q.told("the copy")
	for _, change := range []func(*pair){
		func(x *pair) { x.move(0, 0, 55) },
		func(x *pair) { x.move(1, 1, 56) },
		func(x *pair) { x.open(2, fileAt(9, 9)) },
		func(x *pair) { x.dup(1, 1) },
		func(x *pair) { x.close(0, 0) },
		func(x *pair) { x.fork(1, 5) },
		func(x *pair) { x.begin(4) },
		func(x *pair) { x.move(5, 2, 57) },
		func(x *pair) { x.close(1, 0) },
		func(x *pair) { x.end(0) },
		func(x *pair) { x.end(1) },
		func(x *pair) { x.end(5) },
	} {
		a, b := q.copied(), q.copied()
		change(a)
		b.told("beside the first one")
		change(b)
		a.told("the first one")
		b.told("the second one")
		change(q)
		a.told("beside the one it came of")
		p.told("the one at first")
	}
}

// TestP4CopyCounts: who has a thing is counted in each by itself: the last one is told in both.
func TestP4CopyCounts(t *testing.T) {
	p := pairOf(t, 0)
	p.open(0, fileAt(1, 1))
	p.dup(0, 0)
	q := p.copied()
	for _, x := range []*pair{p, q} {
		if got := x.close(0, 1); got.last {
			t.Error(got)
		}
		if got := x.close(0, 0); !got.last {
			t.Error(got)
		}
	}
}

// TestP4CopiesPlay: copies of copies go on their own ways.
func TestP4CopiesPlay(t *testing.T) {
	for seed := range uint32(20) {
		chance := chances(seed + 1000)
		all := []*pair{pairOf(t, 0, 3)}
		for range 400 {
			p := all[chance(len(all))]
			p.step(chance)
			if len(all) < 5 && chance(30) == 0 {
				all = append(all, p.copied())
			}
		}
		for _, p := range all {
			p.told("behind all")
		}
	}
}

// TestP6Alike: the same calls answer the same, whatever else was done ahead of them.
func TestP6Alike(t *testing.T) {
	run := func() []int {
		chance := chances(5)
		p := pairOf(t, 1)
		var l []int
		for range 500 {
			p.step(chance)
			for pid := range 6 {
				l = append(l, p.d.List(pid)...)
				l = append(l, p.d.Room(pid))
				for fd := range 8 {
					o, e := p.d.Get(pid, fd)
					l = append(l, int(o.Kind), o.Ref, o.Pos, int(e))
				}
			}
		}
		return l
	}
	if !slices.Equal(run(), run()) {
		t.Error("not alike")
	}
}

// TestP1Hostile: every call, at numbers of all kinds, answers as it is told.
func TestP1Hostile(t *testing.T) {
	p := pairOf(t, 0)
	p.open(0, fileAt(1, 1))
	numbers := append(append(noProcs(), noFds()...), 0, 1, 5, 7)
	for _, a := range numbers {
		p.begin(a)
		for _, b := range numbers {
			p.fork(a, b)
			p.open(a, api.Open{Kind: api.OpenKind(b), Ref: b, Pos: a})
			p.dup(a, b)
			p.move(a, b, a)
			p.close(a, b)
			p.d.Same(a, b, b, a)
		}
		p.told("hostile")
		p.end(a)
	}
	p.told("behind all")
}
