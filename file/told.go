package file

import (
	"maps"
	"slices"

	"embrasure/api"
)

// Find is the number of the file that has a name.
func (s *Store) Find(label string) (int, bool) {
	if s == nil {
		return 0, false
	}
	n, named := s.numbers[label]
	return n, named
}

// Names are all names, rising.
func (s *Store) Names() []string {
	if s == nil {
		return nil
	}
	return slices.Sorted(maps.Keys(s.numbers))
}

// Size is how many bytes a file has.
func (s *Store) Size(n int) (int, api.Errno) {
	f, e := s.of(n)
	if e != api.OK {
		return 0, e
	}
	return f.size, api.OK
}

// Sectors are where a file lies, in the order of its bytes.
func (s *Store) Sectors(n int) []int {
	f, e := s.of(n)
	if e != api.OK {
		return nil
	}
	return slices.Clone(f.sectors)
}

// Left is how many sectors are free.
func (s *Store) Left() int {
	if s == nil {
		return 0
	}
	return s.ground.Left()
}

// Fork is another store with the same, which gives the same numbers from here on.
func (s *Store) Fork() *Store {
	if s == nil {
		return nil
	}
	other := &Store{files: map[int]*file{}, numbers: maps.Clone(s.numbers), ground: s.ground.another(), last: s.last}
	for n, f := range s.files {
		other.files[n] = &file{size: f.size, sectors: slices.Clone(f.sectors), times: f.times}
	}
	return other
}
