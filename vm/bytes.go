package vm

import "embrasure/api"

// Peek reads a byte.
func (v *Vm) Peek(pid, addr int) (byte, api.Errno) {
	s, e := v.of(pid)
	if e != api.OK {
		return 0, e
	}
	if !addressed(addr, 1) {
		return 0, api.ErrRange
	}
	frame, mapped := s[addr/api.FrameSize]
	if !mapped {
		return 0, api.ErrFault
	}
	if frame == nowhere {
		return 0, api.OK
	}
	return v.frames.memory.Byte(frame, addr%api.FrameSize)
}

// Poke writes a byte.
func (v *Vm) Poke(pid, addr int, b byte) api.Errno {
	return v.Fill(pid, addr, b)
}

// Fill writes bytes, all or none: that there is a frame for each page that needs one is seen to ahead of the first byte.
func (v *Vm) Fill(pid, addr int, b ...byte) api.Errno {
	s, e := v.of(pid)
	if e != api.OK {
		return e
	}
	if !addressed(addr, len(b)) {
		return api.ErrRange
	}
	if len(b) == 0 {
		return api.OK
	}
	first, last := addr/api.FrameSize, (addr+len(b)-1)/api.FrameSize
	need, e := v.needs(s, first, last)
	if e != api.OK {
		return e
	}
	if need > v.frames.left() {
		return api.ErrSpace
	}
	for page := first; page <= last; page++ {
		s[page] = v.frames.alone(s[page])
	}
	for n, one := range b {
		at := addr + n
		v.frames.memory.SetByte(s[at/api.FrameSize], at%api.FrameSize, one)
	}
	return api.OK
}

// addressed tells whether an address is one, and, of several bytes, the last one's, too.
func addressed(addr, many int) bool {
	return addr >= 0 && addr < addresses && many <= addresses-addr
}

// needs is how many frames the pages from first to last need, if they are written.
func (v *Vm) needs(s space, first, last int) (int, api.Errno) {
	need := 0
	for page := first; page <= last; page++ {
		frame, mapped := s[page]
		if !mapped {
			return 0, api.ErrFault
		}
		if !v.frames.own(frame) {
			need++
		}
	}
	return need, api.OK
}
