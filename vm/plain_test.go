package vm

import (
	"math"
	"slices"
	"testing"

	"embrasure/api"
)

// plain is memory of processes, written out: each has 512 bytes of its own (P19.4), and of each of its pages it is told in which frame it lies (-1: in none). Who lies in a frame is counted anew each time.
type plain struct {
	size, copies int
	there        [6]bool
	mapped       [6][16]bool
	frame        [6][16]int
	bytes        [6][512]byte
}

func (p *plain) has(pid int) bool {
	return pid >= 0 && pid <= 5 && p.there[pid]
}

func (p *plain) refs(frame int) int {
	many := 0
	for pid := range 6 {
		for page := range 16 {
			if p.there[pid] && p.mapped[pid][page] && p.frame[pid][page] == frame {
				many++
			}
		}
	}
	return many
}

// free are the frames in which no page lies.
func (p *plain) free() []int {
	var l []int
	for frame := range p.size {
		if p.refs(frame) == 0 {
			l = append(l, frame)
		}
	}
	return l
}

func (p *plain) begin(pid int) api.Errno {
	if pid < 0 || pid > 5 {
		return api.ErrRange
	}
	if p.there[pid] {
		return api.ErrExist
	}
	p.there[pid], p.mapped[pid], p.bytes[pid] = true, [16]bool{}, [512]byte{}
	return api.OK
}

func (p *plain) end(pid int) api.Errno {
	if !p.has(pid) {
		return api.ErrNoent
	}
	p.there[pid] = false
	return api.OK
}

func (p *plain) fork(from, to int) api.Errno {
	if !p.has(from) {
		return api.ErrNoent
	}
	if e := p.begin(to); e != api.OK {
		return e
	}
	p.mapped[to], p.frame[to], p.bytes[to] = p.mapped[from], p.frame[from], p.bytes[from]
	return api.OK
}

func (p *plain) mapIt(pid, page int) api.Errno {
	if !p.has(pid) {
		return api.ErrNoent
	}
	if page < 0 || page > 15 {
		return api.ErrRange
	}
	if p.mapped[pid][page] {
		return api.ErrExist
	}
	p.mapped[pid][page], p.frame[pid][page] = true, -1
	clear(p.bytes[pid][page*32 : page*32+32])
	return api.OK
}

func (p *plain) unmap(pid, page int) api.Errno {
	if !p.has(pid) {
		return api.ErrNoent
	}
	if page < 0 || page > 15 {
		return api.ErrRange
	}
	if !p.mapped[pid][page] {
		return api.ErrFault
	}
	p.mapped[pid][page] = false
	return api.OK
}

func (p *plain) peek(pid, addr int) (byte, api.Errno) {
	if !p.has(pid) {
		return 0, api.ErrNoent
	}
	if addr < 0 || addr > 511 {
		return 0, api.ErrRange
	}
	if !p.mapped[pid][addr/32] {
		return 0, api.ErrFault
	}
	return p.bytes[pid][addr], api.OK
}

func (p *plain) poke(pid, addr int, b byte) api.Errno {
	if _, e := p.peek(pid, addr); e != api.OK {
		return e
	}
	at := &p.frame[pid][addr/32]
	if *at == -1 || p.refs(*at) > 1 {
		free := p.free()
		if len(free) == 0 {
			return api.ErrSpace
		}
		if *at != -1 {
			p.copies++
		}
		*at = free[0]
	}
	p.bytes[pid][addr] = b
	return api.OK
}

// fill pokes one byte behind the other on another one, which is kept only if all could be; ahead of it, that all are mapped.
func (p *plain) fill(pid, addr int, b ...byte) api.Errno {
	if !p.has(pid) {
		return api.ErrNoent
	}
	if addr < 0 || addr > 511 || len(b) > 512-addr {
		return api.ErrRange
	}
	for n := range b {
		if !p.mapped[pid][(addr+n)/32] {
			return api.ErrFault
		}
	}
	other := *p
	for n, one := range b {
		if e := other.poke(pid, addr+n, one); e != api.OK {
			return e
		}
	}
	*p = other
	return api.OK
}

// pair is a memory and the plain one, to which the same is done.
type pair struct {
	t    *testing.T
	v    *Vm
	want plain
}

func pairOf(t *testing.T, frames int) *pair {
	t.Helper()
	v := New(frames)
	if v == nil {
		t.Fatal(frames)
	}
	return &pair{t: t, v: v, want: plain{size: frames}}
}

func (p *pair) same(got, want api.Errno, what ...any) {
	p.t.Helper()
	if got != want {
		p.t.Fatal(append(what, "answers", got, "not", want)...)
	}
}

func (p *pair) begin(pid int) {
	p.t.Helper()
	p.same(p.v.Begin(pid), p.want.begin(pid), "Begin", pid)
}

func (p *pair) end(pid int) {
	p.t.Helper()
	p.same(p.v.End(pid), p.want.end(pid), "End", pid)
}

func (p *pair) fork(from, to int) {
	p.t.Helper()
	p.same(p.v.Fork(from, to), p.want.fork(from, to), "Fork", from, to)
}

func (p *pair) mapIt(pid int, pages ...int) {
	p.t.Helper()
	for _, page := range pages {
		p.same(p.v.Map(pid, page), p.want.mapIt(pid, page), "Map", pid, page)
	}
}

func (p *pair) unmap(pid, page int) {
	p.t.Helper()
	p.same(p.v.Unmap(pid, page), p.want.unmap(pid, page), "Unmap", pid, page)
}

func (p *pair) poke(pid, addr int, b byte) {
	p.t.Helper()
	p.same(p.v.Poke(pid, addr, b), p.want.poke(pid, addr, b), "Poke", pid, addr, b)
}

func (p *pair) fill(pid, addr int, b ...byte) {
	p.t.Helper()
	p.same(p.v.Fill(pid, addr, b...), p.want.fill(pid, addr, b...), "Fill", pid, addr, b)
}

// copied is another pair with the same.
func (p *pair) copied() *pair {
	return &pair{t: p.t, v: p.v.Copy(), want: p.want}
}

// told holds all that a memory tells, also of what there is not, against what is asked for.
func (p *pair) told(what string) {
	p.t.Helper()
	for _, pid := range append(noProcs(), 0, 1, 2, 3, 4, 5) {
		p.space(what, pid)
	}
	for frame := range 66 {
		want := 0
		if frame < p.want.size {
			want = p.want.refs(frame)
		}
		if got := p.v.Refs(frame); got != want {
			p.t.Fatal(what, "Refs", frame, got, "not", want)
		}
	}
	if got, want := p.v.Left(), len(p.want.free()); got != want {
		p.t.Fatal(what, "Left", got, "not", want)
	}
	if got := p.v.Copies(); got != p.want.copies {
		p.t.Fatal(what, "Copies", got, "not", p.want.copies)
	}
}

// space holds what is told of one process against what is asked for.
func (p *pair) space(what string, pid int) {
	p.t.Helper()
	var pages []int
	for _, page := range append(noPages(), 0, 1, 2, 3, 4, 5, 6, 7, 8, 9, 10, 11, 12, 13, 14, 15) {
		frame, lies := 0, false
		if p.want.has(pid) && page >= 0 && page < 16 && p.want.mapped[pid][page] {
			pages = append(pages, page)
			if frame, lies = p.want.frame[pid][page], true; frame == -1 {
				frame, lies = 0, false
			}
		}
		if got, ok := p.v.Frame(pid, page); got != frame || ok != lies {
			p.t.Fatal(what, "Frame", pid, page, got, ok, "not", frame, lies)
		}
	}
	if got := p.v.Pages(pid); !slices.Equal(got, pages) {
		p.t.Fatal(what, "Pages", pid, got, "not", pages)
	}
	for addr := -3; addr < 515; addr++ {
		want, wanted := p.want.peek(pid, addr)
		if got, e := p.v.Peek(pid, addr); got != want || e != wanted {
			p.t.Fatal(what, "Peek", pid, addr, got, e, "not", want, wanted)
		}
	}
}

// noProcs are numbers that no process has.
func noProcs() []int {
	return []int{-1, 6, 7, -2, -6, 255, 256, -256, 1 << 32, -1 << 32, 1<<32 + 1, math.MinInt, math.MaxInt}
}

// noPages are numbers that no page has.
func noPages() []int {
	return []int{-1, 16, 17, -16, 32, 256, 1 << 32, 1<<32 + 1, math.MinInt, math.MaxInt}
}

// noAddresses are numbers that no address has.
func noAddresses() []int {
	return []int{-1, 512, 513, -2, -31, -32, -33, -512, 544, 1024, 65536, 1 << 32, 1<<32 + 5, math.MinInt, math.MinInt + 1, math.MaxInt - 1, math.MaxInt}
}

func noFrames() []int {
	return []int{-1, 64, 65, -2, -64, 128, 256, 1 << 32, 1<<32 + 1, math.MinInt, math.MaxInt}
}

// bytesOf are so many bytes from one on, none of them 0.
func bytesOf(from, many int) []byte {
	b := make([]byte, many)
	for n := range b {
		b[n] = byte(1 + (from+n)%255)
	}
	return b
}
