package libos

import (
	"slices"
	"strconv"

	"embrasure/api"
	"embrasure/fds"
	"embrasure/file"
	"embrasure/pipe"
)

// most is how many pipes there can be: each of them has a descriptor at least.
const most = api.MaxProcs * api.MaxFds

// opens is what processes have open: their descriptors, and the files and pipes that these are of. A file is held, and a pipe's end is open, once for all descriptors that share it.
type opens struct {
	table *fds.Table
	store *file.Store
	pipes [most]*pipe.Pipe
}

// join makes a pipe, and a descriptor of each of its ends.
func (o *opens) join(c api.Posix) api.Reply {
	if o.table.Room(c.Pid) < 2 {
		return only(api.ErrQuota)
	}
	n := slices.Index(o.pipes[:], nil)
	p := pipe.New()
	p.Open(false)
	p.Open(true)
	o.pipes[n] = p
	low, _ := o.table.Open(c.Pid, api.Open{Kind: api.PipeIn, Ref: n})
	high, _ := o.table.Open(c.Pid, api.Open{Kind: api.PipeOut, Ref: n})
	return api.Reply{N: low, Text: strconv.Itoa(high)}
}

// open opens a file at its beginning, and makes it, if that is asked for.
func (o *opens) open(c api.Posix) api.Reply {
	if !label(c.Text) {
		return only(api.ErrForm)
	}
	n, there := o.store.Find(c.Text)
	if !there && c.M == 0 {
		return only(api.ErrNoent)
	}
	if o.table.Room(c.Pid) == 0 {
		return only(api.ErrQuota)
	}
	if !there {
		made, e := o.store.Make(c.Text)
		if e != api.OK {
			return only(e)
		}
		n = made
	}
	o.store.Hold(n, true)
	fd, _ := o.table.Open(c.Pid, api.Open{Kind: api.FileOpen, Ref: n})
	return api.Reply{N: fd}
}

// label tells whether a text can be a file's name: a store without files has nothing else against it.
func label(text string) bool {
	_, e := file.New(1).Make(text)
	return e == api.OK
}

// unlink takes a file's name away.
func (o *opens) unlink(c api.Posix) api.Reply {
	return only(o.store.Unlink(c.Text))
}

// dup gives a process another descriptor of the same.
func (o *opens) dup(c api.Posix) api.Reply {
	fd, e := o.table.Dup(c.Pid, c.M)
	return api.Reply{N: fd, Errno: e}
}

// close takes a descriptor away.
func (o *opens) close(c api.Posix) api.Reply {
	x, last, e := o.table.Close(c.Pid, c.M)
	if last {
		o.loose(x)
	}
	return only(e)
}

// closeAll takes all descriptors of a process away.
func (o *opens) closeAll(pid int) {
	gone, _ := o.table.End(pid)
	for _, x := range gone {
		o.loose(x)
	}
}

// loose lets go what nobody has a descriptor of any more.
func (o *opens) loose(x api.Open) {
	if x.Kind == api.FileOpen {
		o.store.Hold(x.Ref, false)
		return
	}
	p := o.pipes[x.Ref]
	p.Close(x.Kind == api.PipeOut)
	if p.Count(false) == 0 && p.Count(true) == 0 {
		o.pipes[x.Ref] = nil
	}
}

// text is the text of the file that has a name.
func (o *opens) text(name string) (string, bool) {
	n, there := o.store.Find(name)
	if !there {
		return "", false
	}
	text, _ := o.store.Read(n, 0, api.MaxFile)
	return text, true
}

// another are opens with the same.
func (o *opens) another() opens {
	other := opens{table: o.table.Copy(), store: o.store.Fork()}
	for n, p := range o.pipes {
		other.pipes[n] = p.Fork()
	}
	return other
}
