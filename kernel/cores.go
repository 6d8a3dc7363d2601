package kernel

import (
	"embrasure/api"
	"embrasure/quanta"
	"embrasure/tlb"
)

// core is one: its mappings at hand, and its slices.
type core struct {
	hand  *tlb.Tlb
	turns *quanta.Vector
}

// nowhere is no core: nothing is at hand there, and no turn comes.
func nowhere() core {
	return core{}
}

type cores []core

// idle are so many cores without anything.
func idle(many int) cores {
	var l cores
	for range many {
		l = append(l, core{tlb.New(), quanta.New()})
	}
	return l
}

// core is one with a number; false: there is no such.
func (l cores) core(n int) (core, bool) {
	if n < 0 || n >= len(l) {
		return nowhere(), false
	}
	return l[n], true
}

// unmap takes out those mappings at hand that gone tells.
func (l cores) unmap(gone func(api.Mapping) bool) {
	for _, c := range l {
		for _, m := range c.hand.List() {
			if gone(m) {
				c.hand.Drop(m.Asid, m.Page)
			}
		}
	}
}

// freeSlices frees all slices of an environment.
func (l cores) freeSlices(env uint8) {
	for _, c := range l {
		c.turns.Out(env)
	}
}

// another is cores with the same.
func (l cores) another() cores {
	var o cores
	for _, c := range l {
		o = append(o, core{c.hand.Fork(), c.turns.Fork()})
	}
	return o
}
