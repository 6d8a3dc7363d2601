package libos

import (
	"embrasure/api"
	"embrasure/vm"
)

const (
	pages = 4                     // of each process
	size  = pages * api.FrameSize // bytes that a process has in them
)

// memory is what processes have as bytes.
type memory struct {
	space *vm.Vm
}

// lay gives a process its pages, which need no frames yet.
func (m *memory) lay(pid int) {
	m.space.Begin(pid)
	for page := range pages {
		m.space.Map(pid, page)
	}
}

// poke writes a byte.
func (m *memory) poke(c api.Posix) api.Reply {
	return only(fault(m.space.Poke(c.Pid, c.N, byte(c.M))))
}

// peek reads a byte.
func (m *memory) peek(c api.Posix) api.Reply {
	b, e := m.space.Peek(c.Pid, c.N)
	return api.Reply{N: int(b), Errno: fault(e)}
}

// fault is an error of the space as a process is told it: an address that no space could have is behind its pages, and no more than that.
func fault(e api.Errno) api.Errno {
	if e == api.ErrRange {
		return api.ErrFault
	}
	return e
}

// all are the bytes of a process; of one that does not run none.
func (m *memory) all(pid int) []byte {
	var l []byte
	for at := range size {
		b, e := m.space.Peek(pid, at)
		if e != api.OK {
			return nil
		}
		l = append(l, b)
	}
	return l
}
