package libos

import (
	"math"
	"reflect"
	"slices"
	"testing"

	"embrasure/api"
	"embrasure/posix"
)

// at is a process, and one of its pages or descriptors.
type at struct{ pid, n int }

// plain is what a library must answer: what posix does, of the calls for which there is room. What there is room for is told by who shares which page and which file: those with one number share.
type plain struct {
	model           *posix.Model
	frames, sectors int
	copies, last    int
	pages           map[at]int
	open            map[at]int
	named           map[string]int
	sizes           map[int]int
}

func plainOf(frames, sectors int) *plain {
	return &plain{model: posix.New(), frames: frames, sectors: sectors, pages: map[at]int{}, open: map[at]int{}, named: map[string]int{}, sizes: map[int]int{}}
}

func no(e api.Errno) api.Reply {
	return api.Reply{Errno: e}
}

func (p *plain) do(c api.Posix) api.Reply {
	behind := p.model.Fork()
	r := behind.Do(c)
	if r.Errno != api.OK {
		return r
	}
	if !p.room(c, behind) {
		return no(api.ErrSpace)
	}
	p.model = behind
	p.note(c, r)
	return r
}

// room tells whether there are frames and sectors for a call that posix does, behind which all is as is handed in.
func (p *plain) room(c api.Posix, behind *posix.Model) bool {
	switch c.Kind {
	case api.PokeIt:
		return p.alone(at{c.Pid, c.N / 32}) || p.framesUsed() < p.frames
	case api.WriteIt:
		n, isFile := p.open[at{c.Pid, c.M}]
		return !isFile || p.sectorsUsed()-sectorsFor(p.sizes[n])+sectorsFor(sizeOf(behind, c)) <= p.sectors
	}
	return true
}

// alone tells whether a page was written, and is shared with none.
func (p *plain) alone(page at) bool {
	many := 0
	for _, n := range p.pages {
		if n == p.pages[page] {
			many++
		}
	}
	return many == 1
}

func (p *plain) framesUsed() int {
	used := map[int]int{}
	for _, n := range p.pages {
		used[n]++
	}
	return len(used)
}

func (p *plain) sectorsUsed() int {
	used := map[int]int{}
	for _, n := range p.open {
		used[n] = sectorsFor(p.sizes[n])
	}
	for _, n := range p.named {
		used[n] = sectorsFor(p.sizes[n])
	}
	sum := 0
	for _, many := range used {
		sum += many
	}
	return sum
}

func sectorsFor(size int) int {
	return (size + 31) / 32
}

// sizeOf is how many bytes the file has that a call wrote to.
func sizeOf(m *posix.Model, c api.Posix) int {
	m = m.Fork()
	m.Do(seek(c.Pid, c.M, 0))
	return len(m.Do(read(c.Pid, c.M, 96)).Text)
}

// note notes who has what behind a call that was done.
func (p *plain) note(c api.Posix, r api.Reply) {
	switch c.Kind {
	case api.ForkIt:
		shared(p.pages, c.Pid, r.N)
		shared(p.open, c.Pid, r.N)
	case api.ExitIt:
		p.ended(c.Pid)
	case api.KillIt:
		p.ended(c.N)
	case api.PokeIt:
		p.written(at{c.Pid, c.N / 32})
	case api.OpenIt:
		if p.named[c.Text] == 0 {
			p.last++
			p.named[c.Text] = p.last
		}
		p.open[at{c.Pid, r.N}] = p.named[c.Text]
	case api.DupIt:
		if n, isFile := p.open[at{c.Pid, c.M}]; isFile {
			p.open[at{c.Pid, r.N}] = n
		}
	case api.CloseIt:
		delete(p.open, at{c.Pid, c.M})
	case api.UnlinkIt:
		delete(p.named, c.Text)
	case api.WriteIt:
		if n, isFile := p.open[at{c.Pid, c.M}]; isFile {
			p.sizes[n] = sizeOf(p.model, c)
		}
	}
}

func (p *plain) written(page at) {
	if p.alone(page) {
		return
	}
	if _, had := p.pages[page]; had {
		p.copies++
	}
	p.last++
	p.pages[page] = p.last
}

func (p *plain) ended(pid int) {
	for n := range 8 {
		delete(p.pages, at{pid, n})
		delete(p.open, at{pid, n})
	}
}

// shared lets a process have what another one has.
func shared(l map[at]int, from, to int) {
	for n := range 8 {
		if what, has := l[at{from, n}]; has {
			l[at{to, n}] = what
		}
	}
}

func (p *plain) copied() *plain {
	q := plainOf(p.frames, p.sectors)
	q.model, q.copies, q.last = p.model.Fork(), p.copies, p.last
	for page, n := range p.pages {
		q.pages[page] = n
	}
	for fd, n := range p.open {
		q.open[fd] = n
	}
	for name, n := range p.named {
		q.named[name] = n
	}
	for n, size := range p.sizes {
		q.sizes[n] = size
	}
	return q
}

// pair is a library and the plain one, to which the same is done, and how many calls of it were refused.
type pair struct {
	t       *testing.T
	l       *Library
	want    *plain
	refused int
}

func pairOf(t *testing.T, frames, sectors int) *pair {
	t.Helper()
	p := &pair{t: t, l: New(frames, sectors), want: plainOf(frames, sectors)}
	if p.l == nil {
		t.Fatal("no library", frames, sectors)
	}
	p.told("at first")
	return p
}

func (p *pair) copied() *pair {
	return &pair{t: p.t, l: p.l.Fork(), want: p.want.copied()}
}

// do does a call of both; with an error nothing else is answered, and nothing changes, also of what is not told: to look at all of it takes long, so that this is done of what has no room, and of each eighth one beside.
func (p *pair) do(c api.Posix) api.Reply {
	p.t.Helper()
	was := p.l.Fork()
	got := p.l.Do(c)
	if want := p.want.do(c); got != want {
		p.t.Fatalf("%+v: %+v, not %+v", c, got, want)
	}
	if got.Errno == api.OK {
		return got
	}
	p.refused++
	look := got.Errno == api.ErrSpace || p.refused%8 == 1
	if got != no(got.Errno) || look && !reflect.DeepEqual(p.l.Fork(), was) {
		p.t.Fatalf("%+v: %+v, and something changed", c, got)
	}
	return got
}

// ok does a call that must be done.
func (p *pair) ok(c api.Posix, n int, text string) {
	p.t.Helper()
	if got, want := p.do(c), (api.Reply{N: n, Text: text}); got != want {
		p.t.Errorf("%+v: %+v, not %+v", c, got, want)
	}
}

// no does a call that must be refused.
func (p *pair) no(c api.Posix, e api.Errno) {
	p.t.Helper()
	if got := p.do(c); got != no(e) {
		p.t.Errorf("%+v: %+v, not %d", c, got, e)
	}
}

// done does some calls that must be done, whatever they answer.
func (p *pair) done(l ...api.Posix) {
	p.t.Helper()
	for _, c := range l {
		if got := p.do(c); got.Errno != api.OK {
			p.t.Errorf("%+v: %+v", c, got)
		}
	}
}

// has holds what is free, and how often was copied, against what is asked for.
func (p *pair) has(frames, sectors, copies int) {
	p.t.Helper()
	if p.l.Frames() != frames || p.l.Sectors() != sectors || p.l.Copies() != copies {
		p.t.Error("frames", p.l.Frames(), "sectors", p.l.Sectors(), "copies", p.l.Copies(), "not", frames, sectors, copies)
	}
}

// told holds all that a library tells, also of what there is not, against what is asked for.
func (p *pair) told(what string) {
	p.t.Helper()
	want := p.want.model
	if got := p.l.Running(); !slices.Equal(got, want.Running()) {
		p.t.Fatal(what, "Running", got, "not", want.Running())
	}
	if got := p.l.Names(); !slices.Equal(got, want.Names()) {
		p.t.Fatal(what, "Names", got, "not", want.Names())
	}
	for _, pid := range append(noProcs(), 0, 1, 2, 3, 4, 5) {
		if got := p.l.Bytes(pid); !slices.Equal(got, want.Bytes(pid)) {
			p.t.Fatal(what, "Bytes", pid, got, "not", want.Bytes(pid))
		}
		if got := p.l.List(pid); !slices.Equal(got, want.List(pid)) {
			p.t.Fatal(what, "List", pid, got, "not", want.List(pid))
		}
	}
	for _, label := range append(noLabels(), labels()...) {
		got, ok := p.l.Text(label)
		if text, has := want.Text(label); got != text || ok != has {
			p.t.Fatalf("%s Text %q: %q %t, not %q %t", what, label, got, ok, text, has)
		}
	}
	if free := p.want.frames - p.want.framesUsed(); p.l.Frames() != free {
		p.t.Fatal(what, "Frames", p.l.Frames(), "not", free)
	}
	if free := p.want.sectors - p.want.sectorsUsed(); p.l.Sectors() != free {
		p.t.Fatal(what, "Sectors", p.l.Sectors(), "not", free)
	}
	if p.l.Copies() != p.want.copies {
		p.t.Fatal(what, "Copies", p.l.Copies(), "not", p.want.copies)
	}
}

// noProcs are numbers that no process has.
func noProcs() []int {
	return []int{-1, 6, 7, -2, -6, 255, 256, -256, 1 << 32, -1 << 32, 1<<32 + 1, math.MinInt, math.MaxInt}
}

// noFds are numbers that no descriptor has.
func noFds() []int {
	return []int{-1, 8, 9, -2, -8, 16, 255, 256, -256, 1 << 32, -1 << 32, 1<<32 + 1, math.MinInt, math.MaxInt}
}

// noAddresses are those of no byte of a process.
func noAddresses() []int {
	return []int{-1, 128, 129, -128, 255, 256, 511, 512, 513, -256, 1 << 32, -1 << 32, math.MaxInt, math.MinInt}
}

func labels() []string {
	return []string{"f", "a", "β", "0", "abcdef", "αβγδεζ", "zz", "b1", "q"}
}

// noLabels are texts that no file can have as a name.
func noLabels() []string {
	return []string{"", " ", "A", "abcdefg", "αβγδεζη", "a b", "/", "a/b", "a\n", "\x00", "\xff", "a\xce", "ä", "é", "-", "Ω"}
}

// The calls, by what they say.

func fork(pid int) api.Posix     { return api.Posix{Kind: api.ForkIt, Pid: pid} }
func exit(pid, n int) api.Posix  { return api.Posix{Kind: api.ExitIt, Pid: pid, N: n} }
func wait(pid int) api.Posix     { return api.Posix{Kind: api.WaitIt, Pid: pid} }
func kill(pid, n int) api.Posix  { return api.Posix{Kind: api.KillIt, Pid: pid, N: n} }
func peek(pid, at int) api.Posix { return api.Posix{Kind: api.PeekIt, Pid: pid, N: at} }
func pipes(pid int) api.Posix    { return api.Posix{Kind: api.PipeIt, Pid: pid} }
func dup(pid, fd int) api.Posix  { return api.Posix{Kind: api.DupIt, Pid: pid, M: fd} }
func shut(pid, fd int) api.Posix { return api.Posix{Kind: api.CloseIt, Pid: pid, M: fd} }

func poke(pid, at, b int) api.Posix {
	return api.Posix{Kind: api.PokeIt, Pid: pid, N: at, M: b}
}

func open(pid int, text string, make int) api.Posix {
	return api.Posix{Kind: api.OpenIt, Pid: pid, M: make, Text: text}
}

func read(pid, fd, many int) api.Posix {
	return api.Posix{Kind: api.ReadIt, Pid: pid, M: fd, N: many}
}

func write(pid, fd int, text string) api.Posix {
	return api.Posix{Kind: api.WriteIt, Pid: pid, M: fd, Text: text}
}

func seek(pid, fd, at int) api.Posix {
	return api.Posix{Kind: api.SeekIt, Pid: pid, M: fd, N: at}
}

func unlink(pid int, text string) api.Posix {
	return api.Posix{Kind: api.UnlinkIt, Pid: pid, Text: text}
}

// each are calls of all kinds, of a process.
func each(pid int) []api.Posix {
	return []api.Posix{
		fork(pid), exit(pid, 1), wait(pid), kill(pid, 0), kill(pid, pid), poke(pid, 5, 7), peek(pid, 5), pipes(pid), open(pid, "f", 1), open(pid, "f", 0),
		read(pid, 0, 1), write(pid, 1, "x"), seek(pid, 0, 0), dup(pid, 0), shut(pid, 0), unlink(pid, "f"),
	}
}

// wrong are calls that have an error of their own beside that of the process.
func wrong(pid int) []api.Posix {
	return []api.Posix{
		{Pid: pid}, {Kind: api.Posixes, Pid: pid}, {Kind: 255, Pid: pid}, kill(pid, 9), poke(pid, -1, 0), peek(pid, 128), open(pid, "A", 0), open(pid, "none", 0),
		read(pid, 9, -1), write(pid, -1, ""), seek(pid, 8, 97), dup(pid, 8), shut(pid, -1), unlink(pid, ""),
	}
}
