package posix

import (
	"iter"

	"embrasure/api"
)

// thing is what a descriptor is of: opened, source or sink; nil: there is no such descriptor. Descriptors share it, if theirs are alike.
type thing any

// opened is a file, by the place at which it stands.
type opened struct {
	place int
}

// source is the end of a pipe that reads.
type source struct {
	pipe int
}

// sink is the end of a pipe that writes.
type sink struct {
	pipe int
}

// place is where a file stands that is open.
type place struct {
	file int
	at   int
}

// row are a process' descriptors: what each is of.
type row [api.MaxFds]thing

func (r *row) has(fd int) bool {
	return fd >= 0 && fd < len(r) && r[fd] != nil
}

// list are the descriptors that there are, rising.
func (r *row) list() []int {
	var l []int
	for fd := range r {
		if r.has(fd) {
			l = append(l, fd)
		}
	}
	return l
}

// room is how many more there may be.
func (r *row) room() int {
	return len(r) - len(r.list())
}

// put gives the least descriptor that there is not; there must be room.
func (r *row) put(x thing) int {
	fd := 0
	for r.has(fd) {
		fd++
	}
	r[fd] = x
	return fd
}

// things yields what the descriptors of all processes are of.
func (m *Model) things() iter.Seq[thing] {
	return func(yield func(thing) bool) {
		for pid := range m.rows {
			for _, x := range m.rows[pid] {
				if x != nil && !yield(x) {
					return
				}
			}
		}
	}
}

// had tells whether anybody has a descriptor of it.
func (m *Model) had(x thing) bool {
	for other := range m.things() {
		if other == x {
			return true
		}
	}
	return false
}

// close takes a descriptor away, and with the last one of it what it was of.
func (m *Model) close(pid, fd int) {
	was := m.rows[pid][fd]
	m.rows[pid][fd] = nil
	if m.had(was) {
		return
	}
	switch x := was.(type) {
	case opened:
		n := m.places[x.place].file
		m.places[x.place] = place{}
		m.settle(n)
	case source:
		m.drain(x.pipe)
	case sink:
		m.drain(x.pipe)
	}
}
