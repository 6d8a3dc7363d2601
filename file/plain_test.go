package file

import (
	"math"
	"slices"
	"strings"
	"testing"

	"embrasure/api"
)

// one is a file, written out: its text is kept whole beside its sectors, and a name that is empty is none.
type one struct {
	n       int
	name    string
	text    string
	times   int
	sectors []int
}

// plain are files in sectors, written out. Which sectors are free is told anew each time.
type plain struct {
	size, last int
	files      []one
}

// free are the sectors that no file has.
func (p *plain) free() []int {
	var l []int
	for sector := range p.size {
		if !slices.ContainsFunc(p.files, func(f one) bool { return slices.Contains(f.sectors, sector) }) {
			l = append(l, sector)
		}
	}
	return l
}

func (p *plain) at(n int) *one {
	for i := range p.files {
		if p.files[i].n == n {
			return &p.files[i]
		}
	}
	return nil
}

func (p *plain) find(name string) *one {
	for i := range p.files {
		if name != "" && p.files[i].name == name {
			return &p.files[i]
		}
	}
	return nil
}

// sweep takes out what has no name and is not open.
func (p *plain) sweep() {
	var l []one
	for _, f := range p.files {
		if f.name != "" || f.times > 0 {
			l = append(l, f)
		}
	}
	p.files = l
}

func (p *plain) make(name string) (int, api.Errno) {
	letters := []rune(name)
	wrong := len(letters) < 1 || len(letters) > 6
	for _, r := range letters {
		wrong = wrong || !strings.ContainsRune("abcdefghijklmnopqrstuvwxyz0123456789αβγδεζηθικλμνξοπρςστυφχψω", r)
	}
	if wrong {
		return 0, api.ErrForm
	}
	if p.find(name) != nil {
		return 0, api.ErrExist
	}
	if len(p.files) == 6 {
		return 0, api.ErrSpace
	}
	p.last++
	p.files = append(p.files, one{n: p.last, name: name})
	return p.last, api.OK
}

func (p *plain) unlink(name string) api.Errno {
	f := p.find(name)
	if f == nil {
		return api.ErrNoent
	}
	f.name = ""
	p.sweep()
	return api.OK
}

func (p *plain) hold(n int, open bool) api.Errno {
	f := p.at(n)
	switch {
	case f == nil:
		return api.ErrNoent
	case open && f.times == 100:
		return api.ErrSpace
	case open:
		f.times++
	case f.times == 0:
		return api.ErrState
	default:
		f.times--
	}
	p.sweep()
	return api.OK
}

func (p *plain) write(n, off int, data string) api.Errno {
	f := p.at(n)
	if f == nil {
		return api.ErrNoent
	}
	if off < 0 || off > len(f.text) || off+len(data) > 96 {
		return api.ErrRange
	}
	text := f.text[:off] + data
	if len(text) < len(f.text) {
		text += f.text[len(text):]
	}
	sectors := slices.Clone(f.sectors)
	free := p.free()
	for len(sectors)*32 < len(text) {
		if len(free) == 0 {
			return api.ErrSpace
		}
		sectors, free = append(sectors, free[0]), free[1:]
	}
	f.text, f.sectors = text, sectors
	return api.OK
}

func (p *plain) read(n, off, many int) (string, api.Errno) {
	f := p.at(n)
	if f == nil {
		return "", api.ErrNoent
	}
	if off < 0 || many < 0 {
		return "", api.ErrRange
	}
	var text strings.Builder
	for i := off; i < len(f.text) && text.Len() < many; i++ {
		text.WriteByte(f.text[i])
	}
	return text.String(), api.OK
}

// pair is a store and the plain one, to which the same is done.
type pair struct {
	t    *testing.T
	s    *Store
	want plain
}

func pairOf(t *testing.T, sectors int, names ...string) *pair {
	t.Helper()
	p := &pair{t: t, s: New(sectors), want: plain{size: sectors}}
	if p.s == nil {
		t.Fatal(sectors)
	}
	for _, name := range names {
		p.make(name)
	}
	return p
}

func (p *pair) make(name string) int {
	p.t.Helper()
	n, e := p.s.Make(name)
	if want, wanted := p.want.make(name); n != want || e != wanted {
		p.t.Fatalf("Make %q: %d %d, not %d %d", name, n, e, want, wanted)
	}
	return n
}

func (p *pair) unlink(name string) api.Errno {
	p.t.Helper()
	e := p.s.Unlink(name)
	if want := p.want.unlink(name); e != want {
		p.t.Fatalf("Unlink %q: %d, not %d", name, e, want)
	}
	return e
}

func (p *pair) hold(n int, open bool) api.Errno {
	p.t.Helper()
	e := p.s.Hold(n, open)
	if want := p.want.hold(n, open); e != want {
		p.t.Fatalf("Hold %d %v: %d, not %d", n, open, e, want)
	}
	return e
}

func (p *pair) write(n, off int, data string) api.Errno {
	p.t.Helper()
	e := p.s.Write(n, off, data)
	if want := p.want.write(n, off, data); e != want {
		p.t.Fatalf("Write %d %d %q: %d, not %d", n, off, data, e, want)
	}
	return e
}

func (p *pair) read(n, off, many int) (string, api.Errno) {
	p.t.Helper()
	text, e := p.s.Read(n, off, many)
	if want, wanted := p.want.read(n, off, many); text != want || e != wanted {
		p.t.Fatalf("Read %d %d %d: %q %d, not %q %d", n, off, many, text, e, want, wanted)
	}
	return text, e
}

// forked is another pair with the same.
func (p *pair) forked() *pair {
	q := &pair{t: p.t, s: p.s.Fork(), want: p.want}
	q.want.files = slices.Clone(p.want.files)
	for i := range q.want.files {
		q.want.files[i].sectors = slices.Clone(q.want.files[i].sectors)
	}
	return q
}

// told holds all that a store tells, also of what there is not, against what is asked for.
func (p *pair) told(what string) {
	p.t.Helper()
	var names []string
	for _, f := range p.want.files {
		if f.name != "" {
			names = append(names, f.name)
		}
	}
	slices.Sort(names)
	if got := p.s.Names(); !slices.Equal(got, names) {
		p.t.Fatal(what, "Names", got, "not", names)
	}
	for _, name := range append(append(someNames(), noNames()...), names...) {
		want, found := 0, false
		if f := p.want.find(name); f != nil {
			want, found = f.n, true
		}
		if n, ok := p.s.Find(name); n != want || ok != found {
			p.t.Fatal(what, "Find", name, n, ok, "not", want, found)
		}
	}
	if got, want := p.s.Left(), len(p.want.free()); got != want {
		p.t.Fatal(what, "Left", got, "not", want)
	}
	for n := range p.want.last + 3 {
		p.file(what, n)
	}
	for _, n := range noNumbers() {
		p.file(what, n)
	}
	p.alone(what)
}

// file holds what is told of one file against what is asked for.
func (p *pair) file(what string, n int) {
	p.t.Helper()
	size, wanted, sectors := 0, api.ErrNoent, []int(nil)
	if f := p.want.at(n); f != nil {
		size, wanted, sectors = len(f.text), api.OK, f.sectors
	}
	if got, e := p.s.Size(n); got != size || e != wanted {
		p.t.Fatal(what, "Size", n, got, e, "not", size, wanted)
	}
	if got := p.s.Sectors(n); !slices.Equal(got, sectors) {
		p.t.Fatal(what, "Sectors", n, got, "not", sectors)
	}
	p.read(n, 0, 97)
}

// alone tells whether what is free is 0 and belongs to nobody, and what is not free to one file, as the ground has it too.
func (p *pair) alone(what string) {
	p.t.Helper()
	had := map[int]int{}
	for _, f := range p.want.files {
		for _, sector := range p.s.Sectors(f.n) {
			had[sector]++
		}
	}
	for sector := range p.want.size {
		if had[sector] > 1 {
			p.t.Fatal(what, sector, "belongs to", had[sector])
		}
		x, bound := p.s.ground.At(sector)
		if bound != (had[sector] == 1) || bound && x.Len != 1 {
			p.t.Fatal(what, sector, x, bound, had[sector])
		}
		if b, _ := p.s.ground.Sector(sector); !bound && string(b) != string(make([]byte, 32)) {
			p.t.Fatal(what, sector, "is free, and has", b)
		}
	}
}

func someNames() []string {
	return []string{"a", "b", "c", "d", "e", "f", "g", "α", "ω9", "zzzzzz", "000000", "ωωωωωω"}
}

// noNames are texts that are no labels.
func noNames() []string {
	return []string{"", "A", "a b", "/", "/a", "a/b", "a\n", "\x00", "aaaaaaa", "ωωωωωωω", "ä", "ΰ", "ϊ", "`", "{", ":", "-", "\xff", "a\xff", "\xce", "\xed\xa0\x80", "\u2028", strings.Repeat("a", 1000)}
}

// noNumbers are numbers that no file has had.
func noNumbers() []int {
	return []int{0, -1, -2, 1 << 20, 1 << 32, 1<<32 + 1, -1 << 32, math.MinInt, math.MaxInt}
}

// textOf are so many bytes of all kinds from one on: most of them are no text, few of them 0.
func textOf(from, many int) string {
	b := make([]byte, many)
	for n := range b {
		b[n] = byte(from + n*7)
	}
	return string(b)
}
