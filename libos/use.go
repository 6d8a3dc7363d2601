package libos

import "embrasure/api"

// read reads at most so many bytes of a file, or of a pipe's end that is for it.
func (o *opens) read(c api.Posix) api.Reply {
	x, e := o.table.Get(c.Pid, c.M)
	if e != api.OK {
		return only(e)
	}
	text := ""
	switch x.Kind {
	case api.FileOpen:
		text, e = o.store.Read(x.Ref, x.Pos, c.N)
		o.table.Move(c.Pid, c.M, x.Pos+len(text))
	case api.PipeIn:
		text, e = o.pipes[x.Ref].Read(c.N)
	default:
		e = api.ErrState
	}
	return api.Reply{Text: text, Errno: e}
}

// write writes to a file, or to a pipe's end that is for it.
func (o *opens) write(c api.Posix) api.Reply {
	x, e := o.table.Get(c.Pid, c.M)
	if e != api.OK {
		return only(e)
	}
	many := 0
	switch x.Kind {
	case api.FileOpen:
		if e = o.store.Write(x.Ref, x.Pos, c.Text); e == api.OK {
			many = len(c.Text)
			o.table.Move(c.Pid, c.M, x.Pos+many)
		}
	case api.PipeOut:
		many, e = o.pipes[x.Ref].Write(c.Text)
	default:
		e = api.ErrState
	}
	return api.Reply{N: many, Errno: e}
}

// seek lets a file stand elsewhere, also behind its end.
func (o *opens) seek(c api.Posix) api.Reply {
	x, e := o.table.Get(c.Pid, c.M)
	if e != api.OK {
		return only(e)
	}
	if x.Kind != api.FileOpen {
		return only(api.ErrState)
	}
	if c.N < 0 || c.N > api.MaxFile {
		return only(api.ErrRange)
	}
	return only(o.table.Move(c.Pid, c.M, c.N))
}
