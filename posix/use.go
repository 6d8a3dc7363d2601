package posix

import "embrasure/api"

// use does a call of a descriptor.
func (m *Model) use(c api.Posix) api.Reply {
	r := &m.rows[c.Pid]
	if !r.has(c.M) {
		return refused(api.ErrForm)
	}
	switch x := r[c.M]; c.Kind {
	case api.ReadIt:
		return m.read(x, c.N)
	case api.WriteIt:
		return m.write(x, c.Text)
	case api.SeekIt:
		return m.seek(x, c.N)
	case api.DupIt:
		return r.dup(x)
	}
	m.close(c.Pid, c.M)
	return api.Reply{}
}

// dup gives one more descriptor of a thing.
func (r *row) dup(x thing) api.Reply {
	if r.room() == 0 {
		return refused(api.ErrQuota)
	}
	return api.Reply{N: r.put(x)}
}

// read reads at most so many bytes of a file, or of a pipe's end that is for it.
func (m *Model) read(x thing, many int) api.Reply {
	switch x := x.(type) {
	case opened:
		if many < 0 {
			return refused(api.ErrRange)
		}
		p := &m.places[x.place]
		text := m.files[p.file].read(p.at, many)
		p.at += len(text)
		return api.Reply{Text: text}
	case source:
		text, e := m.pipes[x.pipe].read(many, m.had(sink{x.pipe}))
		return api.Reply{Text: text, Errno: e}
	}
	return refused(api.ErrState)
}

// write writes to a file, or to a pipe's end that is for it.
func (m *Model) write(x thing, text string) api.Reply {
	switch x := x.(type) {
	case opened:
		p := &m.places[x.place]
		if e := m.files[p.file].write(p.at, text); e != api.OK {
			return refused(e)
		}
		p.at += len(text)
		return api.Reply{N: len(text)}
	case sink:
		many, e := m.pipes[x.pipe].write(text, m.had(source{x.pipe}))
		return api.Reply{N: many, Errno: e}
	}
	return refused(api.ErrState)
}

// seek lets a file stand elsewhere, also behind its end.
func (m *Model) seek(x thing, at int) api.Reply {
	o, ok := x.(opened)
	if !ok {
		return refused(api.ErrState)
	}
	if at < 0 || at > api.MaxFile {
		return refused(api.ErrRange)
	}
	m.places[o.place].at = at
	return api.Reply{}
}
