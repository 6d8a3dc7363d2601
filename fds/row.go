package fds

import (
	"slices"

	"embrasure/api"
)

// shared is what descriptors are of, and how many have it.
type shared struct {
	api.Open
	had int
}

// row are a process' descriptors: what each is of; nil: there is no such.
type row [api.MaxFds]*shared

// put gives the least descriptor that there is not, of something that one more has then.
func (r *row) put(s *shared) (int, api.Errno) {
	fd := slices.Index(r[:], nil)
	if fd < 0 {
		return 0, api.ErrQuota
	}
	r[fd] = s
	s.had++
	return fd, api.OK
}

// drop takes a descriptor away that there is: what it was of, and whether nobody has that any more.
func (r *row) drop(fd int) (api.Open, bool) {
	s := r[fd]
	r[fd] = nil
	s.had--
	return s.Open, s.had == 0
}

// list are the descriptors that there are, rising.
func (r *row) list() []int {
	var l []int
	for fd, s := range r {
		if s != nil {
			l = append(l, fd)
		}
	}
	return l
}

// copied is another row with the same descriptors; what each is of there is told by the function that is handed in.
func (r *row) copied(of func(*shared) *shared) *row {
	other := &row{}
	for fd, s := range r {
		if s != nil {
			other[fd] = of(s)
		}
	}
	return other
}

// twins is a function that answers another thing with the same, and of the same thing the same one however often it is asked, so that those who share it share its twin.
func twins() func(*shared) *shared {
	var seen, made []*shared
	return func(s *shared) *shared {
		at := slices.Index(seen, s)
		if at < 0 {
			at = len(seen)
			twin := *s
			seen, made = append(seen, s), append(made, &twin)
		}
		return made[at]
	}
}
