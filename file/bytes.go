package file

import "embrasure/api"

// Write writes, all or nothing.
func (s *Store) Write(n, off int, data string) api.Errno {
	f, e := s.of(n)
	if e != api.OK {
		return e
	}
	if off < 0 || off > f.size || len(data) > api.MaxFile-off {
		return api.ErrRange
	}
	end := max(f.size, off+len(data))
	more := sectorsOf(end) - len(f.sectors)
	if more > s.ground.Left() {
		return api.ErrSpace
	}
	for range more {
		f.sectors = append(f.sectors, s.ground.bind())
	}
	s.ground.put(f.sectors, off, data)
	f.size = end
	return api.OK
}

// sectorsOf is how many sectors so many bytes need.
func sectorsOf(size int) int {
	return (size + api.FrameSize - 1) / api.FrameSize
}

// Read reads at most so many bytes.
func (s *Store) Read(n, off, many int) (string, api.Errno) {
	f, e := s.of(n)
	if e != api.OK {
		return "", e
	}
	if off < 0 || many < 0 {
		return "", api.ErrRange
	}
	text := s.ground.text(f.sectors)[:f.size]
	text = text[min(off, len(text)):]
	return text[:min(many, len(text))], api.OK
}
