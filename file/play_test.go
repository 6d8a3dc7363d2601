package file

import (
	"slices"
	"testing"

	"embrasure/api"
)

func chances(seed uint32) func(int) int {
	return func(n int) int {
		seed = seed*1664525 + 1013904223
		return int(seed>>8) % n
	}
}

// step does one thing by chance, seldom a wrong one.
func (p *pair) step(chance func(int) int) {
	p.t.Helper()
	name := someNames()[chance(len(someNames()))]
	n, off, many := p.want.last+1, chance(97), chance(40)
	if files := p.want.files; len(files) > 0 {
		f := files[chance(len(files))]
		n, off = f.n, chance(len(f.text)+1)
	}
	switch chance(50) {
	case 0:
		name = noNames()[chance(len(noNames()))]
	case 1:
		n = noNumbers()[chance(len(noNumbers()))]
	case 2:
		n = chance(p.want.last + 2)
	case 3:
		off += chance(200) - 100
	case 4:
		many = chance(120)
	}
	switch chance(16) {
	case 0, 1, 2:
		p.make(name)
	case 3, 4:
		p.unlink(name)
	case 5, 6:
		p.hold(n, true)
	case 7, 8, 9:
		p.hold(n, false)
	case 10, 11:
		p.read(n, off, many)
	default:
		p.write(n, off, textOf(chance(256), many))
	}
}

// TestE1AnyOrder: in any order of calls what was written is read (P22.4), no sector belongs to two (P22.5), and at last all are free (P22.6).
func TestE1AnyOrder(t *testing.T) {
	for seed := range uint32(60) {
		chance := chances(seed)
		sectors := []int{1, 2, 3, 5, 8, 12, 18, 64}[chance(8)]
		p := pairOf(t, sectors)
		for n := range 500 {
			p.step(chance)
			if n%10 == 0 {
				p.told("any order")
			}
		}
		p.told("all of it")
		p.empty()
		if p.s.Left() != sectors {
			t.Fatal(seed, p.s.Left())
		}
	}
}

// empty lets all files be no more.
func (p *pair) empty() {
	p.t.Helper()
	for _, f := range slices.Clone(p.want.files) {
		for range f.times {
			p.hold(f.n, false)
		}
	}
	for _, name := range p.s.Names() {
		p.unlink(name)
	}
	p.told("none")
}

// TestP4Fork: a Fork has the same; what becomes of the one changes nothing of the other one.
func TestP4Fork(t *testing.T) {
	p := pairOf(t, 6, "a", "b", "c")
	p.write(1, 0, textOf(1, 40))
	p.write(2, 0, textOf(2, 10))
	p.hold(2, true)
	p.hold(3, true)
	p.unlink("c")
	q := p.forked()
	if q.s == nil || q.s == p.s {
		t.Fatal("no other one")
	}
	q.told("the fork")
	for _, change := range []func(*pair){
		func(x *pair) { x.write(1, 5, "changed") },
		func(x *pair) { x.write(1, 40, textOf(7, 50)) },
		func(x *pair) { x.write(3, 0, "more") },
		func(x *pair) { x.make("d") },
		func(x *pair) { x.hold(1, true) },
		func(x *pair) { x.hold(2, false) },
		func(x *pair) { x.hold(3, false) },
		func(x *pair) { x.write(4, 0, textOf(9, 64)) },
		func(x *pair) { x.unlink("b") },
		func(x *pair) { x.unlink("a") },
		func(x *pair) { x.make("a") },
		func(x *pair) { x.hold(1, false) },
	} {
		a, b := q.forked(), q.forked()
		change(a)
		b.told("beside the first one")
		change(b)
		a.told("the first one")
		b.told("the second one")
		change(q)
		a.told("beside the one it came of")
		p.told("the one at first")
	}
}

// TestP4ForkNumbers: each gives its own numbers from there on; sectors that one takes are free in the other one.
func TestP4ForkNumbers(t *testing.T) {
	p := pairOf(t, 2, "a")
	p.unlink("a")
	q := p.forked()
	for _, x := range []*pair{p, q} {
		if n := x.make("b"); n != 2 {
			t.Error(n)
		}
		if e := x.write(2, 0, textOf(1, 64)); e != api.OK {
			t.Error(e)
		}
		x.told("each by itself")
	}
}

// TestP4ForksPlay: forks of forks go on their own ways.
func TestP4ForksPlay(t *testing.T) {
	for seed := range uint32(15) {
		chance := chances(seed + 1000)
		all := []*pair{pairOf(t, 7)}
		for range 400 {
			p := all[chance(len(all))]
			p.step(chance)
			if len(all) < 5 && chance(30) == 0 {
				all = append(all, p.forked())
			}
		}
		for _, p := range all {
			p.told("behind all")
			p.empty()
		}
	}
}

// TestP6Alike: the same calls answer the same, whatever else was done ahead of them.
func TestP6Alike(t *testing.T) {
	run := func() []string {
		chance := chances(5)
		p := pairOf(t, 9)
		var l []string
		for range 500 {
			p.step(chance)
			l = append(l, p.s.Names()...)
			for _, f := range p.want.files {
				text, _ := p.s.Read(f.n, 0, 96)
				l = append(l, text)
				for _, sector := range p.s.Sectors(f.n) {
					l = append(l, string(rune('0'+sector)))
				}
			}
		}
		return l
	}
	if !slices.Equal(run(), run()) {
		t.Error("not alike")
	}
}

// TestP1Hostile: every call, at numbers and texts of all kinds, answers as it is told.
func TestP1Hostile(t *testing.T) {
	p := pairOf(t, 3, "a", "b")
	p.write(1, 0, textOf(1, 50))
	p.hold(2, true)
	numbers := append(noNumbers(), 1, 2, 3, 31, 32, 33, 49, 50, 51, 96, 97)
	for _, n := range numbers {
		for _, off := range numbers {
			p.write(n, off, "")
			p.write(n, off, "\xff\x00")
			p.write(n, off, textOf(2, 97))
			for _, many := range numbers {
				p.read(n, off, many)
			}
		}
		p.hold(n, false)
		p.hold(n, true)
		p.told("hostile")
	}
	for _, name := range append(noNames(), someNames()...) {
		p.make(name)
		p.unlink(name)
		p.unlink(name)
		p.told("hostile names")
	}
}
