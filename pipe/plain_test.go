package pipe

import (
	"testing"

	"embrasure/api"
)

// plain is a pipe, written out: its text, and how often it is open to read and to write.
type plain struct {
	text          string
	reads, writes int
}

func (p *plain) side(write bool) *int {
	if write {
		return &p.writes
	}
	return &p.reads
}

func (p *plain) open(write bool) api.Errno {
	if *p.side(write) == 100 {
		return api.ErrSpace
	}
	*p.side(write)++
	return api.OK
}

func (p *plain) close(write bool) api.Errno {
	if *p.side(write) == 0 {
		return api.ErrState
	}
	*p.side(write)--
	return api.OK
}

func (p *plain) write(data string) (int, api.Errno) {
	if p.reads == 0 {
		return 0, api.ErrState
	}
	if len(data) == 0 {
		return 0, api.OK
	}
	if len(p.text) == 24 || len(data) <= 8 && len(p.text)+len(data) > 24 {
		return 0, api.ErrAgain
	}
	many := 0
	for many < len(data) && len(p.text) < 24 {
		p.text += data[many : many+1]
		many++
	}
	return many, api.OK
}

func (p *plain) read(many int) (string, api.Errno) {
	switch {
	case many < 0:
		return "", api.ErrRange
	case many == 0:
		return "", api.OK
	case p.text == "" && p.writes > 0:
		return "", api.ErrAgain
	case many > len(p.text):
		many = len(p.text)
	}
	text := p.text[:many]
	p.text = p.text[many:]
	return text, api.OK
}

// pair is a pipe and the plain one, to which the same is done.
type pair struct {
	t    *testing.T
	p    *Pipe
	want plain
}

// pairOf is a pipe that is open so often.
func pairOf(t *testing.T, reads, writes int) *pair {
	t.Helper()
	x := &pair{t: t, p: New()}
	for range reads {
		x.open(false)
	}
	for range writes {
		x.open(true)
	}
	return x
}

func (x *pair) open(write bool) {
	x.t.Helper()
	if got, want := x.p.Open(write), x.want.open(write); got != want {
		x.t.Fatal("Open", write, got, "not", want)
	}
	x.told("open")
}

func (x *pair) close(write bool) {
	x.t.Helper()
	if got, want := x.p.Close(write), x.want.close(write); got != want {
		x.t.Fatal("Close", write, got, "not", want)
	}
	x.told("close")
}

func (x *pair) write(data string) {
	x.t.Helper()
	many, e := x.p.Write(data)
	if want, wanted := x.want.write(data); many != want || e != wanted {
		x.t.Fatalf("Write %q: %d %d, not %d %d", data, many, e, want, wanted)
	}
	x.told("write")
}

func (x *pair) read(many int) {
	x.t.Helper()
	text, e := x.p.Read(many)
	if want, wanted := x.want.read(many); text != want || e != wanted {
		x.t.Fatalf("Read %d: %q %d, not %q %d", many, text, e, want, wanted)
	}
	x.told("read")
}

// told holds all that a pipe tells against what is asked for.
func (x *pair) told(what string) {
	x.t.Helper()
	if got := x.p.Text(); got != x.want.text {
		x.t.Fatalf("%s: Text %q, not %q", what, got, x.want.text)
	}
	if x.p.Count(false) != x.want.reads || x.p.Count(true) != x.want.writes {
		x.t.Fatal(what, "Count", x.p.Count(false), x.p.Count(true), "not", x.want.reads, x.want.writes)
	}
}

func (x *pair) forked() *pair {
	return &pair{t: x.t, p: x.p.Fork(), want: x.want}
}

func chances(seed uint32) func(int) int {
	return func(n int) int {
		seed = seed*1664525 + 1013904223
		return int(seed>>8) % n
	}
}

// someBytes are so many bytes of any kind, most of them no text.
func someBytes(chance func(int) int, many int) string {
	b := make([]byte, many)
	for n := range b {
		b[n] = byte(chance(256))
	}
	return string(b)
}
