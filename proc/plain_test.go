package proc

import (
	"math"
	"slices"
	"testing"

	"embrasure/api"
)

// plain are processes, written out: of each number how far it is, whose child, and how it ended.
type plain struct {
	state  [6]api.ProcState
	parent [6]int
	status [6]int
}

func plainOf() plain {
	return plain{state: [6]api.ProcState{api.Running}}
}

func (p *plain) is(pid int, s api.ProcState) bool {
	return pid >= 0 && pid <= 5 && p.state[pid] == s
}

func (p *plain) there(pid int) bool {
	return p.is(pid, api.Running) || p.is(pid, api.Zombie)
}

func (p *plain) children(pid int) []int {
	var l []int
	for n := 1; n <= 5; n++ {
		if p.there(n) && p.parent[n] == pid {
			l = append(l, n)
		}
	}
	return l
}

func (p *plain) fork(pid int) (int, api.Errno) {
	if !p.is(pid, api.Running) {
		return 0, api.ErrNoent
	}
	for n := range 6 {
		if p.state[n] == api.NoProc {
			p.state[n], p.parent[n] = api.Running, pid
			return n, api.OK
		}
	}
	return 0, api.ErrAgain
}

func (p *plain) exit(pid, status int) api.Errno {
	if !p.is(pid, api.Running) {
		return api.ErrNoent
	}
	if pid == 0 {
		return api.ErrPerm
	}
	for _, n := range p.children(pid) {
		p.parent[n] = 0
	}
	p.state[pid], p.status[pid] = api.Zombie, status
	return api.OK
}

func (p *plain) wait(pid int) (int, int, api.Errno) {
	if !p.is(pid, api.Running) {
		return 0, 0, api.ErrNoent
	}
	if len(p.children(pid)) == 0 {
		return 0, 0, api.ErrForm
	}
	for _, n := range p.children(pid) {
		if p.state[n] == api.Zombie {
			status := p.status[n]
			p.state[n], p.parent[n], p.status[n] = api.NoProc, 0, 0
			return n, status, api.OK
		}
	}
	return 0, 0, api.ErrAgain
}

// pair is a table and the plain one, to which the same is done.
type pair struct {
	t    *testing.T
	d    *Table
	want plain
}

func pairOf(t *testing.T) *pair {
	t.Helper()
	p := &pair{t: t, d: New(), want: plainOf()}
	p.told("at first")
	return p
}

// forks forks some, one behind the other.
func (p *pair) forks(pids ...int) {
	p.t.Helper()
	for _, pid := range pids {
		p.fork(pid)
	}
}

func (p *pair) fork(pid int) (int, api.Errno) {
	p.t.Helper()
	n, e := p.d.Fork(pid)
	if want, wanted := p.want.fork(pid); n != want || e != wanted {
		p.t.Fatal("Fork", pid, n, e, "not", want, wanted)
	}
	return n, e
}

func (p *pair) exit(pid, status int) api.Errno {
	p.t.Helper()
	e := p.d.Exit(pid, status)
	if wanted := p.want.exit(pid, status); e != wanted {
		p.t.Fatal("Exit", pid, status, e, "not", wanted)
	}
	return e
}

func (p *pair) kill(pid int) api.Errno {
	p.t.Helper()
	e := p.d.Kill(pid)
	if wanted := p.want.exit(pid, 137); e != wanted {
		p.t.Fatal("Kill", pid, e, "not", wanted)
	}
	return e
}

func (p *pair) wait(pid int) (int, int, api.Errno) {
	p.t.Helper()
	n, status, e := p.d.Wait(pid)
	if a, b, wanted := p.want.wait(pid); n != a || status != b || e != wanted {
		p.t.Fatal("Wait", pid, n, status, e, "not", a, b, wanted)
	}
	return n, status, e
}

// copied is another pair with the same.
func (p *pair) copied() *pair {
	return &pair{t: p.t, d: p.d.Copy(), want: p.want}
}

// told holds all that a table tells, also of what there is not, against what is asked for.
func (p *pair) told(what string) {
	p.t.Helper()
	var running []int
	for _, pid := range append(none(), 0, 1, 2, 3, 4, 5) {
		state, parent, status := api.NoProc, -1, 0
		var children []int
		if p.want.there(pid) {
			state, parent, children = p.want.state[pid], p.want.parent[pid], p.want.children(pid)
		}
		if state == api.Zombie {
			status = p.want.status[pid]
		}
		if state == api.Running {
			running = append(running, pid)
		}
		if got := p.d.State(pid); got != state {
			p.t.Fatal(what, "State", pid, got, "not", state)
		}
		if got := p.d.Parent(pid); got != parent {
			p.t.Fatal(what, "Parent", pid, got, "not", parent)
		}
		if got := p.d.Children(pid); !slices.Equal(got, children) {
			p.t.Fatal(what, "Children", pid, got, "not", children)
		}
		if got := p.d.Status(pid); got != status {
			p.t.Fatal(what, "Status", pid, got, "not", status)
		}
	}
	if got := p.d.Running(); !slices.Equal(got, running) {
		p.t.Fatal(what, "Running", got, "not", running)
	}
}

// none are numbers that no process has.
func none() []int {
	return []int{-1, 6, 7, -2, -6, 255, 256, -256, 1 << 32, -1 << 32, 1<<32 + 1, math.MinInt, math.MaxInt}
}

// chances is a row of numbers that looks like chance, and is the same for the same seed.
func chances(seed uint32) func(int) int {
	return func(n int) int {
		seed = seed*1664525 + 1013904223
		return int(seed>>8) % n
	}
}
