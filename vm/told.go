package vm

import (
	"maps"
	"slices"

	"embrasure/api"
)

// Pages are the pages that are mapped, rising.
func (v *Vm) Pages(pid int) []int {
	s, e := v.of(pid)
	if e != api.OK {
		return nil
	}
	return slices.Sorted(maps.Keys(s))
}

// Frame is where a page lies.
func (v *Vm) Frame(pid, page int) (int, bool) {
	s, e := v.of(pid)
	if e != api.OK {
		return 0, false
	}
	frame, mapped := s[page]
	if !mapped || frame == nowhere {
		return 0, false
	}
	return frame, true
}

// Refs is how many pages lie in a frame.
func (v *Vm) Refs(frame int) int {
	if v == nil || frame < 0 || frame >= len(v.frames.refs) {
		return 0
	}
	return v.frames.refs[frame]
}

// Left is how many frames no page lies in.
func (v *Vm) Left() int {
	if v == nil {
		return 0
	}
	return v.frames.left()
}

// Copies is how often a frame was copied.
func (v *Vm) Copies() int {
	if v == nil {
		return 0
	}
	return v.frames.copies
}

// Copy is another one with the same.
func (v *Vm) Copy() *Vm {
	if v == nil {
		return nil
	}
	other := &Vm{frames: v.frames.fork()}
	for pid, s := range v.spaces {
		other.spaces[pid] = maps.Clone(s)
	}
	return other
}
