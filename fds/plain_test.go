package fds

import (
	"math"
	"slices"
	"testing"

	"embrasure/api"
)

// plain are descriptors of processes, written out: things have numbers from 1 on, and of each descriptor that of its thing is told (0: there is no such). Who has a thing is counted anew each time.
type plain struct {
	there  [6]bool
	fds    [6][8]int
	things []api.Open
}

func (p *plain) has(pid int) bool {
	return pid >= 0 && pid <= 5 && p.there[pid]
}

func (p *plain) refs(thing int) int {
	many := 0
	for pid := range 6 {
		for fd := range 8 {
			if p.there[pid] && p.fds[pid][fd] == thing {
				many++
			}
		}
	}
	return many
}

// thing is what a descriptor is of, by its number.
func (p *plain) thing(pid, fd int) (int, api.Errno) {
	if !p.has(pid) {
		return 0, api.ErrNoent
	}
	if fd < 0 || fd > 7 || p.fds[pid][fd] == 0 {
		return 0, api.ErrForm
	}
	return p.fds[pid][fd], api.OK
}

func (p *plain) begin(pid int) api.Errno {
	if pid < 0 || pid > 5 {
		return api.ErrRange
	}
	if p.there[pid] {
		return api.ErrExist
	}
	p.there[pid], p.fds[pid] = true, [8]int{}
	return api.OK
}

func (p *plain) end(pid int) ([]api.Open, api.Errno) {
	if !p.has(pid) {
		return nil, api.ErrNoent
	}
	var gone []api.Open
	for fd := range 8 {
		if o, last, e := p.close(pid, fd); e == api.OK && last {
			gone = append(gone, o)
		}
	}
	p.there[pid] = false
	return gone, api.OK
}

func (p *plain) fork(from, to int) api.Errno {
	if !p.has(from) {
		return api.ErrNoent
	}
	if e := p.begin(to); e != api.OK {
		return e
	}
	p.fds[to] = p.fds[from]
	return api.OK
}

// give gives the least descriptor.
func (p *plain) give(pid, thing int) (int, api.Errno) {
	for fd := range 8 {
		if p.fds[pid][fd] == 0 {
			p.fds[pid][fd] = thing
			return fd, api.OK
		}
	}
	return 0, api.ErrQuota
}

func (p *plain) open(pid int, o api.Open) (int, api.Errno) {
	if !p.has(pid) {
		return 0, api.ErrNoent
	}
	if o.Kind < 1 || o.Kind > 3 {
		return 0, api.ErrRange
	}
	p.things = append(p.things, o)
	return p.give(pid, len(p.things))
}

func (p *plain) dup(pid, fd int) (int, api.Errno) {
	thing, e := p.thing(pid, fd)
	if e != api.OK {
		return 0, e
	}
	return p.give(pid, thing)
}

func (p *plain) close(pid, fd int) (api.Open, bool, api.Errno) {
	thing, e := p.thing(pid, fd)
	if e != api.OK {
		return api.Open{}, false, e
	}
	p.fds[pid][fd] = 0
	return p.things[thing-1], p.refs(thing) == 0, api.OK
}

func (p *plain) move(pid, fd, pos int) api.Errno {
	thing, e := p.thing(pid, fd)
	if e == api.OK {
		p.things[thing-1].Pos = pos
	}
	return e
}

// pair is a table and the plain one, to which the same is done.
type pair struct {
	t    *testing.T
	d    *Table
	want plain
}

// pairOf is a pair with some processes.
func pairOf(t *testing.T, pids ...int) *pair {
	t.Helper()
	p := &pair{t: t, d: New()}
	for _, pid := range pids {
		p.begin(pid)
	}
	return p
}

func (p *pair) same(got, want any, what ...any) {
	p.t.Helper()
	if got != want {
		p.t.Fatal(append(what, "answers", got, "not", want)...)
	}
}

func (p *pair) begin(pid int) api.Errno {
	p.t.Helper()
	e := p.d.Begin(pid)
	p.same(e, p.want.begin(pid), "Begin", pid)
	return e
}

func (p *pair) end(pid int) []api.Open {
	p.t.Helper()
	gone, e := p.d.End(pid)
	want, wanted := p.want.end(pid)
	if !slices.Equal(gone, want) || e != wanted {
		p.t.Fatal("End", pid, gone, e, "not", want, wanted)
	}
	return gone
}

func (p *pair) fork(from, to int) api.Errno {
	p.t.Helper()
	e := p.d.Fork(from, to)
	p.same(e, p.want.fork(from, to), "Fork", from, to)
	return e
}

func (p *pair) open(pid int, o api.Open) int {
	p.t.Helper()
	fd, e := p.d.Open(pid, o)
	want, wanted := p.want.open(pid, o)
	p.same([2]int{fd, int(e)}, [2]int{want, int(wanted)}, "Open", pid, o)
	return fd
}

func (p *pair) dup(pid, fd int) int {
	p.t.Helper()
	got, e := p.d.Dup(pid, fd)
	want, wanted := p.want.dup(pid, fd)
	p.same([2]int{got, int(e)}, [2]int{want, int(wanted)}, "Dup", pid, fd)
	return got
}

// closed is what Close answers.
type closed struct {
	o    api.Open
	last bool
	e    api.Errno
}

func (p *pair) close(pid, fd int) closed {
	p.t.Helper()
	var got, want closed
	got.o, got.last, got.e = p.d.Close(pid, fd)
	want.o, want.last, want.e = p.want.close(pid, fd)
	p.same(got, want, "Close", pid, fd)
	return got
}

func (p *pair) move(pid, fd, pos int) {
	p.t.Helper()
	p.same(p.d.Move(pid, fd, pos), p.want.move(pid, fd, pos), "Move", pid, fd, pos)
}

// copied is another pair with the same.
func (p *pair) copied() *pair {
	q := &pair{t: p.t, d: p.d.Copy(), want: p.want}
	q.want.things = slices.Clone(p.want.things)
	return q
}

// told holds all that a table tells, also of what there is not, against what is asked for.
func (p *pair) told(what string) {
	p.t.Helper()
	for _, pid := range append(noProcs(), procs()...) {
		var list []int
		room := 0
		for _, fd := range append(noFds(), 0, 1, 2, 3, 4, 5, 6, 7) {
			thing, wanted := p.want.thing(pid, fd)
			var want api.Open
			if wanted == api.OK {
				want = p.want.things[thing-1]
				list = append(list, fd)
			}
			if got, e := p.d.Get(pid, fd); got != want || e != wanted {
				p.t.Fatal(what, "Get", pid, fd, got, e, "not", want, wanted)
			}
		}
		if p.want.has(pid) {
			room = 8 - len(list)
		}
		if got := p.d.List(pid); !slices.Equal(got, list) {
			p.t.Fatal(what, "List", pid, got, "not", list)
		}
		p.same(p.d.Room(pid), room, what, "Room", pid)
	}
	p.shares(what)
}

// shares holds who shares with whom against what is asked for.
func (p *pair) shares(what string) {
	p.t.Helper()
	for _, one := range spots() {
		first, e := p.want.thing(one[0], one[1])
		for _, other := range spots() {
			second, f := p.want.thing(other[0], other[1])
			want := e == api.OK && f == api.OK && first == second
			if got := p.d.Same(one[0], one[1], other[0], other[1]); got != want {
				p.t.Fatal(what, "Same", one, other, got)
			}
		}
	}
}

// spots are processes and descriptors, also some that there cannot be.
func spots() [][2]int {
	l := [][2]int{{-1, 0}, {6, 0}, {-1, -1}, {6, 8}, {math.MaxInt, math.MinInt}}
	for pid := range 6 {
		for fd := -1; fd <= 8; fd++ {
			l = append(l, [2]int{pid, fd})
		}
	}
	return l
}

func procs() []int {
	return []int{0, 1, 2, 3, 4, 5}
}

// noProcs are numbers that no process has.
func noProcs() []int {
	return []int{-1, 6, 7, -2, -6, 255, 256, -256, 1 << 32, -1 << 32, 1<<32 + 1, math.MinInt, math.MaxInt}
}

// noFds are numbers that no descriptor has.
func noFds() []int {
	return []int{-1, 8, 9, -2, -8, 16, 255, 256, -256, 1 << 32, -1 << 32, 1<<32 + 1, math.MinInt, math.MaxInt}
}

// fileAt is a file that is open, and stands somewhere.
func fileAt(ref, pos int) api.Open {
	return api.Open{Kind: api.FileOpen, Ref: ref, Pos: pos}
}
