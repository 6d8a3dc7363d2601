package posix

import (
	"embrasure/api"
	"embrasure/name"
)

// file is one: its name, which is empty when it has none any more, and its text. What has no name, and is not open, is none.
type file struct {
	name string
	text [api.MaxFile]byte
	size int
}

// read is at most so many bytes from a place on.
func (f *file) read(at, many int) string {
	at = min(at, f.size)
	return string(f.text[at : at+min(many, f.size-at)])
}

// write writes at a place, all or nothing.
func (f *file) write(at int, text string) api.Errno {
	if at > f.size || len(text) > len(f.text)-at {
		return api.ErrRange
	}
	copy(f.text[at:], text)
	f.size = max(f.size, at+len(text))
	return api.OK
}

// find is the file that has a name.
func (m *Model) find(label string) (int, bool) {
	for n := range m.files {
		if label != "" && m.files[n].name == label {
			return n, true
		}
	}
	return 0, false
}

// spare is where the next file may be.
func (m *Model) spare() (int, bool) {
	for n := range m.files {
		if m.files[n].name == "" && !m.isOpen(n) {
			return n, true
		}
	}
	return 0, false
}

// isOpen tells whether anybody has a file open.
func (m *Model) isOpen(n int) bool {
	for x := range m.things() {
		if o, ok := x.(opened); ok && m.places[o.place].file == n {
			return true
		}
	}
	return false
}

// settle lets a file be no more, if it has no name and nobody has it open.
func (m *Model) settle(n int) {
	if m.files[n].name == "" && !m.isOpen(n) {
		m.files[n] = file{}
	}
}

// open opens a file at its beginning, and makes it, if that is asked for.
func (m *Model) open(c api.Posix) api.Reply {
	if !name.Label(c.Text) {
		return refused(api.ErrForm)
	}
	n, there := m.find(c.Text)
	if !there && c.M == 0 {
		return refused(api.ErrNoent)
	}
	r := &m.rows[c.Pid]
	if r.room() == 0 {
		return refused(api.ErrQuota)
	}
	if !there {
		if n, there = m.spare(); !there {
			return refused(api.ErrSpace)
		}
		m.files[n].name = c.Text
	}
	at := 0
	for m.had(opened{at}) {
		at++
	}
	m.places[at] = place{file: n}
	return api.Reply{N: r.put(opened{at})}
}

// unlink takes a file's name away.
func (m *Model) unlink(label string) api.Reply {
	n, there := m.find(label)
	if !there {
		return refused(api.ErrNoent)
	}
	m.files[n].name = ""
	m.settle(n)
	return api.Reply{}
}
