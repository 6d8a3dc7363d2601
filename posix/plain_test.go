package posix

import (
	"fmt"
	"math"
	"slices"
	"testing"

	"embrasure/api"
	"embrasure/name"
	plainpipe "embrasure/pipe"
)

// plainFile is a file: a text, and a name, or none any more.
type plainFile struct {
	label string
	named bool
	text  string
}

// plainOpen is what descriptors share: a file and a position, or an end of a pipe.
type plainOpen struct {
	file *plainFile
	pos  int
	pipe *plainpipe.Pipe
	out  bool
}

type plainProc struct {
	state          api.ProcState
	parent, status int
	bytes          [128]byte
	fds            map[int]*plainOpen
}

// plain is what processes are promised, written out by things that point to each other; pipes are those of package pipe, open as often as there are descriptors.
type plain struct {
	procs [6]plainProc
	named []*plainFile
}

func plainOf() *plain {
	p := &plain{}
	p.procs[0] = plainProc{state: api.Running, fds: map[int]*plainOpen{}}
	return p
}

func no(e api.Errno) api.Reply {
	return api.Reply{Errno: e}
}

func (p *plain) runs(pid int) bool {
	return pid >= 0 && pid <= 5 && p.procs[pid].state == api.Running
}

func (p *plain) do(c api.Posix) api.Reply {
	if !p.runs(c.Pid) {
		return no(api.ErrNoent)
	}
	me := &p.procs[c.Pid]
	switch c.Kind {
	case api.ForkIt:
		return p.fork(c.Pid)
	case api.ExitIt:
		return p.end(c.Pid, (c.N%256+256)%256)
	case api.WaitIt:
		return p.wait(c.Pid)
	case api.KillIt:
		if !p.runs(c.N) {
			return no(api.ErrNoent)
		}
		return p.end(c.N, 137)
	case api.PokeIt:
		if c.N < 0 || c.N > 127 {
			return no(api.ErrFault)
		}
		me.bytes[c.N] = byte((c.M%256 + 256) % 256)
		return api.Reply{}
	case api.PeekIt:
		if c.N < 0 || c.N > 127 {
			return no(api.ErrFault)
		}
		return api.Reply{N: int(me.bytes[c.N])}
	case api.PipeIt:
		if len(me.fds) > 6 {
			return no(api.ErrQuota)
		}
		way := plainpipe.New()
		low := me.give(&plainOpen{pipe: way})
		return api.Reply{N: low, Text: fmt.Sprint(me.give(&plainOpen{pipe: way, out: true}))}
	case api.OpenIt:
		return p.open(me, c.Text, c.M != 0)
	case api.UnlinkIt:
		return p.unlink(c.Text)
	}
	return me.use(c)
}

func (p *plain) fork(pid int) api.Reply {
	for n := range p.procs {
		child := &p.procs[n]
		if child.state != api.NoProc {
			continue
		}
		*child = plainProc{state: api.Running, parent: pid, bytes: p.procs[pid].bytes, fds: map[int]*plainOpen{}}
		for fd, o := range p.procs[pid].fds {
			child.fds[fd] = o
			if o.pipe != nil {
				o.pipe.Open(o.out)
			}
		}
		return api.Reply{N: n}
	}
	return no(api.ErrAgain)
}

func (p *plain) end(pid, status int) api.Reply {
	if pid == 0 {
		return no(api.ErrPerm)
	}
	for n := 1; n < 6; n++ {
		if p.procs[n].parent == pid {
			p.procs[n].parent = 0
		}
	}
	for fd := range p.procs[pid].fds {
		p.procs[pid].close(fd)
	}
	p.procs[pid] = plainProc{state: api.Zombie, parent: p.procs[pid].parent, status: status}
	return api.Reply{}
}

func (p *plain) wait(pid int) api.Reply {
	answer := no(api.ErrForm)
	for n := 5; n > 0; n-- {
		child := p.procs[n]
		if child.state == api.NoProc || child.parent != pid {
			continue
		}
		if child.state == api.Zombie {
			answer = api.Reply{N: n, Text: fmt.Sprint(child.status)}
		} else if answer.Errno == api.ErrForm {
			answer = no(api.ErrAgain)
		}
	}
	if answer.Errno == api.OK {
		p.procs[answer.N] = plainProc{}
	}
	return answer
}

// give gives the least descriptor; there must be room.
func (m *plainProc) give(o *plainOpen) int {
	for fd := 0; ; fd++ {
		if m.fds[fd] == nil {
			m.fds[fd] = o
			if o.pipe != nil {
				o.pipe.Open(o.out)
			}
			return fd
		}
	}
}

func (m *plainProc) close(fd int) {
	if o := m.fds[fd]; o.pipe != nil {
		o.pipe.Close(o.out)
	}
	delete(m.fds, fd)
}

// files are all that there are: those with a name, and those that are open.
func (p *plain) files() []*plainFile {
	l := slices.Clone(p.named)
	for _, m := range p.procs {
		for _, o := range m.fds {
			if o.file != nil && !slices.Contains(l, o.file) {
				l = append(l, o.file)
			}
		}
	}
	return l
}

func (p *plain) find(label string) *plainFile {
	for _, f := range p.named {
		if f.label == label {
			return f
		}
	}
	return nil
}

func (p *plain) open(me *plainProc, label string, make bool) api.Reply {
	f := p.find(label)
	switch {
	case !name.Label(label):
		return no(api.ErrForm)
	case f == nil && !make:
		return no(api.ErrNoent)
	case len(me.fds) == 8:
		return no(api.ErrQuota)
	case f == nil && len(p.files()) == 6:
		return no(api.ErrSpace)
	case f == nil:
		f = &plainFile{label: label, named: true}
		p.named = append(p.named, f)
	}
	return api.Reply{N: me.give(&plainOpen{file: f})}
}

func (p *plain) unlink(label string) api.Reply {
	f := p.find(label)
	if f == nil {
		return no(api.ErrNoent)
	}
	p.named = slices.DeleteFunc(p.named, func(g *plainFile) bool { return g == f })
	f.named = false
	return api.Reply{}
}

// use does what is of a descriptor, or of no kind.
func (m *plainProc) use(c api.Posix) api.Reply {
	if c.Kind < api.ReadIt || c.Kind > api.CloseIt {
		return no(api.ErrRange)
	}
	o := m.fds[c.M]
	if o == nil {
		return no(api.ErrForm)
	}
	switch {
	case c.Kind == api.CloseIt:
		m.close(c.M)
		return api.Reply{}
	case c.Kind == api.DupIt && len(m.fds) == 8:
		return no(api.ErrQuota)
	case c.Kind == api.DupIt:
		return api.Reply{N: m.give(o)}
	case o.file != nil:
		return o.ofFile(c)
	case c.Kind == api.ReadIt && !o.out:
		text, e := o.pipe.Read(c.N)
		return api.Reply{Text: text, Errno: e}
	case c.Kind == api.WriteIt && o.out:
		many, e := o.pipe.Write(c.Text)
		return api.Reply{N: many, Errno: e}
	}
	return no(api.ErrState)
}

// ofFile reads, writes or seeks a file.
func (o *plainOpen) ofFile(c api.Posix) api.Reply {
	text := o.file.text
	switch c.Kind {
	case api.ReadIt:
		if c.N < 0 {
			return no(api.ErrRange)
		}
		got := ""
		for range c.N {
			if o.pos >= len(text) {
				break
			}
			got += text[o.pos : o.pos+1]
			o.pos++
		}
		return api.Reply{Text: got}
	case api.WriteIt:
		if o.pos > len(text) || o.pos+len(c.Text) > 96 {
			return no(api.ErrRange)
		}
		rest := ""
		if o.pos+len(c.Text) < len(text) {
			rest = text[o.pos+len(c.Text):]
		}
		o.file.text = text[:o.pos] + c.Text + rest
		o.pos += len(c.Text)
		return api.Reply{N: len(c.Text)}
	}
	if c.N < 0 || c.N > 96 {
		return no(api.ErrRange)
	}
	o.pos = c.N
	return api.Reply{}
}

// copied is another one with the same: what is shared in the one is shared in the other.
func (p *plain) copied() *plain {
	files, opens, pipes := map[*plainFile]*plainFile{nil: nil}, map[*plainOpen]*plainOpen{}, map[*plainpipe.Pipe]*plainpipe.Pipe{nil: nil}
	q := &plain{}
	for _, f := range p.files() {
		g := *f
		files[f] = &g
	}
	for _, f := range p.named {
		q.named = append(q.named, files[f])
	}
	for n, m := range p.procs {
		q.procs[n] = m
		if m.fds == nil {
			continue
		}
		q.procs[n].fds = map[int]*plainOpen{}
		for fd, o := range m.fds {
			if pipes[o.pipe] == nil && o.pipe != nil {
				pipes[o.pipe] = o.pipe.Fork()
			}
			if opens[o] == nil {
				opens[o] = &plainOpen{file: files[o.file], pos: o.pos, pipe: pipes[o.pipe], out: o.out}
			}
			q.procs[n].fds[fd] = opens[o]
		}
	}
	return q
}

// pair is a model and the plain one, to which the same is done.
type pair struct {
	t    *testing.T
	m    *Model
	want *plain
}

func pairOf(t *testing.T) *pair {
	t.Helper()
	p := &pair{t: t, m: New(), want: plainOf()}
	p.told("at first")
	return p
}

// copied is another pair with the same.
func (p *pair) copied() *pair {
	return &pair{t: p.t, m: p.m.Fork(), want: p.want.copied()}
}

// alike tells whether two models have the same inside.
func alike(a, b *Model) bool {
	x, y := *a, *b
	x.procs, y.procs = nil, nil
	return x == y && *a.procs == *b.procs
}

// do does a call of both; with an error nothing else is answered, and nothing changes.
func (p *pair) do(c api.Posix) api.Reply {
	p.t.Helper()
	was := p.m.Fork()
	got := p.m.Do(c)
	if want := p.want.do(c); got != want {
		p.t.Fatalf("%+v: %+v, not %+v", c, got, want)
	}
	if got.Errno != api.OK && (got != no(got.Errno) || !alike(p.m, was)) {
		p.t.Fatalf("%+v: %+v, and something changed", c, got)
	}
	return got
}

// ok does a call that must be done.
func (p *pair) ok(c api.Posix, n int, text string) {
	p.t.Helper()
	if got, want := p.do(c), (api.Reply{N: n, Text: text}); got != want {
		p.t.Errorf("%+v: %+v, not %+v", c, got, want)
	}
}

// no does a call that must be refused.
func (p *pair) no(c api.Posix, e api.Errno) {
	p.t.Helper()
	if got := p.do(c); got != no(e) {
		p.t.Errorf("%+v: %+v, not %d", c, got, e)
	}
}

// done does some calls that must be done, whatever they answer.
func (p *pair) done(l ...api.Posix) {
	p.t.Helper()
	for _, c := range l {
		if got := p.do(c); got.Errno != api.OK {
			p.t.Errorf("%+v: %+v", c, got)
		}
	}
}

// told holds all that a model tells, also of what there is not, against what is asked for.
func (p *pair) told(what string) {
	p.t.Helper()
	var running []int
	for _, pid := range append(none(), 0, 1, 2, 3, 4, 5) {
		var bytes []byte
		var list []int
		if p.want.runs(pid) {
			running = append(running, pid)
			me := p.want.procs[pid]
			bytes = me.bytes[:]
			for fd := range 8 {
				if me.fds[fd] != nil {
					list = append(list, fd)
				}
			}
		}
		if got := p.m.Bytes(pid); !slices.Equal(got, bytes) {
			p.t.Fatal(what, "Bytes", pid, got, "not", bytes)
		}
		if got := p.m.List(pid); !slices.Equal(got, list) {
			p.t.Fatal(what, "List", pid, got, "not", list)
		}
	}
	if got := p.m.Running(); !slices.Equal(got, running) {
		p.t.Fatal(what, "Running", got, "not", running)
	}
	p.toldOfFiles(what)
}

func (p *pair) toldOfFiles(what string) {
	p.t.Helper()
	var names []string
	for _, f := range p.want.named {
		names = append(names, f.label)
	}
	slices.Sort(names)
	if got := p.m.Names(); !slices.Equal(got, names) {
		p.t.Fatal(what, "Names", got, "not", names)
	}
	for _, label := range append(noLabels(), labels()...) {
		f := p.want.find(label)
		want := ""
		if f != nil {
			want = f.text
		}
		if got, ok := p.m.Text(label); got != want || ok != (f != nil) {
			p.t.Fatalf("%s Text %q: %q %t, not %q", what, label, got, ok, want)
		}
	}
}

// none are numbers that no process has.
func none() []int {
	return []int{-1, 6, 7, -2, -6, 255, 256, -256, 1 << 32, -1 << 32, 1<<32 + 1, math.MinInt, math.MaxInt}
}

// noFds are numbers that no descriptor has.
func noFds() []int {
	return []int{-1, 8, 9, -2, -8, 16, 255, 256, -256, 1 << 32, -1 << 32, 1<<32 + 1, math.MinInt, math.MaxInt}
}

func labels() []string {
	return []string{"f", "a", "β", "0", "abcdef", "αβγδεζ", "zz", "b1", "q"}
}

// noLabels are texts that no file can have as a name.
func noLabels() []string {
	return []string{"", " ", "A", "abcdefg", "αβγδεζη", "a b", "/", "a/b", "a\n", "\x00", "\xff", "a\xce", "ä", "é", "-", "Ω"}
}

// The calls, by what they say.

func fork(pid int) api.Posix     { return api.Posix{Kind: api.ForkIt, Pid: pid} }
func exit(pid, n int) api.Posix  { return api.Posix{Kind: api.ExitIt, Pid: pid, N: n} }
func wait(pid int) api.Posix     { return api.Posix{Kind: api.WaitIt, Pid: pid} }
func kill(pid, n int) api.Posix  { return api.Posix{Kind: api.KillIt, Pid: pid, N: n} }
func peek(pid, at int) api.Posix { return api.Posix{Kind: api.PeekIt, Pid: pid, N: at} }
func pipes(pid int) api.Posix    { return api.Posix{Kind: api.PipeIt, Pid: pid} }
func dup(pid, fd int) api.Posix  { return api.Posix{Kind: api.DupIt, Pid: pid, M: fd} }
func shut(pid, fd int) api.Posix { return api.Posix{Kind: api.CloseIt, Pid: pid, M: fd} }

func poke(pid, at, b int) api.Posix {
	return api.Posix{Kind: api.PokeIt, Pid: pid, N: at, M: b}
}

func open(pid int, text string, make int) api.Posix {
	return api.Posix{Kind: api.OpenIt, Pid: pid, M: make, Text: text}
}

func read(pid, fd, many int) api.Posix {
	return api.Posix{Kind: api.ReadIt, Pid: pid, M: fd, N: many}
}

func write(pid, fd int, text string) api.Posix {
	return api.Posix{Kind: api.WriteIt, Pid: pid, M: fd, Text: text}
}

func seek(pid, fd, at int) api.Posix {
	return api.Posix{Kind: api.SeekIt, Pid: pid, M: fd, N: at}
}

func unlink(pid int, text string) api.Posix {
	return api.Posix{Kind: api.UnlinkIt, Pid: pid, Text: text}
}
