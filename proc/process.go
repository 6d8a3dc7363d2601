package proc

import (
	"iter"

	"embrasure/api"
)

// process is one whose type tells how far it is: running or zombie; nil: there is none.
type process any

type running struct {
	parent int
}

type zombie struct {
	parent int
	status int
}

func state(p process) api.ProcState {
	switch p.(type) {
	case running:
		return api.Running
	case zombie:
		return api.Zombie
	}
	return api.NoProc
}

func parent(p process) int {
	switch x := p.(type) {
	case running:
		return x.parent
	case zombie:
		return x.parent
	}
	return -1
}

// left is a process whose parent ended: it is the first one's child, and else what it was.
func left(p process) process {
	switch x := p.(type) {
	case running:
		return running{parent: first}
	case zombie:
		return zombie{parent: first, status: x.status}
	}
	return nil
}

// at is a process by its number.
func (t *Table) at(pid int) process {
	if t == nil || pid < 0 || pid >= len(t.all) {
		return nil
	}
	return t.all[pid]
}

// runs is a process that runs, or why it may not be asked for.
func (t *Table) runs(pid int) (running, api.Errno) {
	if t == nil {
		return running{}, api.ErrNil
	}
	r, ok := t.at(pid).(running)
	if !ok {
		return running{}, api.ErrNoent
	}
	return r, api.OK
}

// children yields a process' children with their numbers, rising. The first process has itself as a parent, and is nobody's child all the same.
func (t *Table) children(pid int) iter.Seq2[int, process] {
	return func(yield func(int, process) bool) {
		if t.at(pid) == nil {
			return
		}
		for n, p := range t.all {
			if n != first && parent(p) == pid && !yield(n, p) {
				return
			}
		}
	}
}
