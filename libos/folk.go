package libos

import (
	"strconv"

	"embrasure/api"
	"embrasure/proc"
)

// first is the process that is there from the beginning on.
const first = 0

// folk are the processes.
type folk struct {
	procs *proc.Table
}

// runs tells whether a process does.
func (f *folk) runs(pid int) bool {
	return f.procs.State(pid) == api.Running
}

// wait takes a child away that ended.
func (f *folk) wait(c api.Posix) api.Reply {
	child, status, e := f.procs.Wait(c.Pid)
	if e != api.OK {
		return only(e)
	}
	return api.Reply{N: child, Text: strconv.Itoa(status)}
}
