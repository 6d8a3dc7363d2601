package proc

import (
	"slices"
	"testing"

	"embrasure/api"
)

// step does one thing by chance, seldom of a number that is none.
func (p *pair) step(chance func(int) int) {
	p.t.Helper()
	pid := chance(6)
	if chance(30) == 0 {
		pid = none()[chance(len(none()))]
	}
	switch chance(10) {
	case 0, 1, 2, 3:
		p.fork(pid)
	case 4, 5:
		p.exit(pid, chance(600)-300)
	case 6:
		p.kill(pid)
	default:
		p.wait(pid)
	}
}

// fromFirst holds that each that is there comes, by parents that are there, from 0.
func (p *pair) fromFirst() {
	p.t.Helper()
	for pid := range 6 {
		if p.d.State(pid) == api.NoProc {
			continue
		}
		at := pid
		for range 6 {
			at = p.d.Parent(at)
			if p.d.State(at) != api.Running {
				p.t.Fatal(pid, "has", at, "above it, which does not run")
			}
		}
		if at != 0 {
			p.t.Fatal(pid, "does not come from 0, but from", at)
		}
		if pid != 0 && !slices.Contains(p.d.Children(p.d.Parent(pid)), pid) {
			p.t.Fatal(pid, "is no child of its parent")
		}
	}
}

// TestE1AnyOrder: in any order of calls all is as it is told; each comes from 0 (P23.3).
func TestE1AnyOrder(t *testing.T) {
	for seed := range uint32(100) {
		chance := chances(seed)
		p := pairOf(t)
		for range 400 {
			p.step(chance)
			p.told("any order")
			p.fromFirst()
		}
	}
}

// TestE1All: all rows of up to eight calls that change something, of all processes that there can be.
func TestE1All(t *testing.T) {
	var calls []func(*pair)
	for pid := range 6 {
		calls = append(calls, func(p *pair) { p.fork(pid) }, func(p *pair) { p.exit(pid, 3+pid) }, func(p *pair) { p.wait(pid) })
	}
	var deeper func(*pair, int)
	deeper = func(p *pair, left int) {
		p.told("all rows")
		if left == 0 {
			return
		}
		for _, call := range calls {
			q := p.copied()
			call(q)
			if q.want != p.want {
				deeper(q, left-1)
			}
		}
	}
	p := pairOf(t)
	deeper(p, 8)
	p.told("what the copies came of")
}

// TestP23_4Once: each that ended is waited for once, with its own status.
func TestP23_4Once(t *testing.T) {
	for seed := range uint32(60) {
		chance := chances(seed + 500)
		p := pairOf(t)
		seen := map[int]int{}
		last := 0
		ends := func(pid int) {
			if p.exit(pid, last+1) == api.OK {
				last++
			}
		}
		waits := func(pid int) bool {
			_, status, e := p.wait(pid)
			if e == api.OK {
				seen[status]++
			}
			return e == api.OK
		}
		for range 300 {
			switch chance(3) {
			case 0:
				p.fork(chance(6))
			case 1:
				ends(chance(6))
			case 2:
				waits(chance(6))
			}
		}
		for pid := 1; pid < 6; pid++ {
			ends(pid)
		}
		for waits(0) {
		}
		if len(seen) != last || !slices.Equal(p.d.Running(), []int{0}) || len(p.d.Children(0)) != 0 {
			t.Fatal(seed, len(seen), last, p.d.Running(), p.d.Children(0))
		}
		for status, times := range seen {
			if times != 1 {
				t.Error(seed, status, times)
			}
		}
	}
}

// TestP4Copy: what becomes of the one changes nothing of the other one.
func TestP4Copy(t *testing.T) {
	p := pairOf(t)
	p.forks(0, 1, 0, 1)
	p.exit(2, 9)
	q := p.copied()
	if q.d == nil || q.d == p.d {
		t.Fatal("no other one")
	}
	q.told("the copy")
	for _, change := range []func(*pair){
		func(x *pair) { x.fork(3) },
		func(x *pair) { x.exit(4, 2) },
		func(x *pair) { x.wait(1) },
		func(x *pair) { x.fork(0) },
		func(x *pair) { x.kill(1) },
		func(x *pair) { x.wait(0) },
		func(x *pair) { x.wait(0) },
	} {
		a, b := q.copied(), q.copied()
		change(a)
		b.told("beside the first one")
		change(b)
		a.told("the first one")
		b.told("the second one")
		change(q)
		a.told("beside the one it came of")
		p.told("the one at first")
	}
}

// TestP4CopiesPlay: copies of copies go on their own ways.
func TestP4CopiesPlay(t *testing.T) {
	for seed := range uint32(20) {
		chance := chances(seed + 1000)
		all := []*pair{pairOf(t)}
		for range 400 {
			p := all[chance(len(all))]
			p.step(chance)
			if len(all) < 5 && chance(30) == 0 {
				all = append(all, p.copied())
			}
		}
		for _, p := range all {
			p.told("behind all")
		}
	}
}

// TestP1Hostile: every call, at numbers of all kinds, answers as it is told.
func TestP1Hostile(t *testing.T) {
	p := pairOf(t)
	p.forks(0, 1)
	for _, a := range append(none(), 0, 1, 2, 5) {
		for _, b := range none() {
			p.exit(b, a)
			p.exit(a, b)
			p.kill(b)
			p.wait(b)
			p.fork(b)
		}
		p.told("hostile")
		p.fork(a)
		p.kill(a)
		p.wait(a)
		p.told("behind it")
	}
	p.fromFirst()
}

// TestP6Alike: the same calls answer the same, whatever else was done ahead of them.
func TestP6Alike(t *testing.T) {
	run := func() []int {
		chance := chances(5)
		p := pairOf(t)
		var l []int
		for range 300 {
			p.step(chance)
			l = append(append(l, p.d.Running()...), p.d.Children(0)...)
		}
		return l
	}
	if !slices.Equal(run(), run()) {
		t.Error("not alike")
	}
}

// TestE7Limits: there are never more than MaxProcs, Zombies among them, and their numbers are below it.
func TestE7Limits(t *testing.T) {
	chance := chances(77)
	d := New()
	there := 1
	for range 5000 {
		pid := chance(6)
		switch chance(4) {
		case 0, 1:
			n, e := d.Fork(pid)
			if n < 0 || n >= api.MaxProcs || e == api.OK && there == api.MaxProcs {
				t.Fatal(pid, n, e, there)
			}
			if e == api.OK {
				there++
			}
		case 2:
			d.Exit(pid, 1)
		case 3:
			if _, _, e := d.Wait(pid); e == api.OK {
				there--
			}
		}
	}
	if there < 1 || there > api.MaxProcs {
		t.Error(there)
	}
}
