package file

import (
	"math"
	"slices"
	"strings"
	"testing"

	"embrasure/api"
)

// TestP22_2WriteOffsets: at all offsets from 0 to the size, and at none else.
func TestP22_2WriteOffsets(t *testing.T) {
	for _, size := range []int{0, 1, 31, 32, 33, 64, 95, 96} {
		for _, many := range []int{0, 1, 2, 31, 32, 33, 64, 96, 97} {
			for off := -2; off <= 99; off++ {
				p := pairOf(t, 5, "b", "a")
				p.write(1, 0, textOf(200, 30))
				p.write(2, 0, textOf(9, size))
				wanted := api.OK
				if off < 0 || off > size || off+many > 96 {
					wanted = api.ErrRange
				}
				if e := p.write(2, off, textOf(100, many)); e != wanted {
					t.Fatal(size, many, off, e)
				}
				p.told("written")
			}
		}
	}
}

// TestP22_2WriteRange: numbers that are no offsets, and texts that are too long, ahead of the want of sectors; nothing is changed.
func TestP22_2WriteRange(t *testing.T) {
	p := pairOf(t, 1, "a", "b")
	p.write(1, 0, "full")
	for _, off := range []int{-1, 5, 6, 96, 97, -96, 1 << 32, 1<<32 + 1, math.MinInt, math.MinInt + 1, math.MaxInt - 1, math.MaxInt} {
		for _, data := range []string{"", "x", textOf(0, 96), textOf(0, 97)} {
			if e := p.s.Write(1, off, data); e != api.ErrRange {
				t.Error(off, len(data), e)
			}
		}
	}
	for _, many := range []int{97, 98, 128, 1000, 1 << 20} {
		if e := p.s.Write(2, 0, textOf(0, many)); e != api.ErrRange {
			t.Error(many, e)
		}
		if e := p.s.Write(1, 0, textOf(0, many)); e != api.ErrRange {
			t.Error(many, e)
		}
	}
	if p.s.Write(1, 4, textOf(0, 93)) != api.ErrRange || p.s.Write(1, 4, textOf(0, 92)) != api.ErrSpace {
		t.Error("which error comes first")
	}
	p.told("refused")
}

// TestP22_2WriteNoent: of a file that there is not, ahead of all other errors.
func TestP22_2WriteNoent(t *testing.T) {
	p := pairOf(t, 1, "a", "b")
	p.write(2, 0, "x")
	p.unlink("a")
	for _, n := range append(noNumbers(), 1, 3) {
		for _, off := range []int{0, -1, 1, 97, math.MinInt, math.MaxInt} {
			for _, data := range []string{"", "x", textOf(0, 97)} {
				if e := p.s.Write(n, off, data); e != api.ErrNoent {
					t.Error(n, off, len(data), e)
				}
			}
			if text, e := p.s.Read(n, off, off); text != "" || e != api.ErrNoent {
				t.Error(n, off, text, e)
			}
		}
	}
	p.told("refused")
}

// TestE7MaxFile: a file ends at MaxFile at the latest, however it comes there.
func TestE7MaxFile(t *testing.T) {
	p := pairOf(t, 4, "a")
	for n := range 96 {
		if e := p.write(1, n, textOf(n, 1)); e != api.OK {
			t.Fatal(n, e)
		}
		if got := len(p.s.Sectors(1)); got != n/32+1 {
			t.Fatal(n, got)
		}
	}
	p.told("full")
	if p.write(1, 96, "x") != api.ErrRange || p.write(1, 95, "xy") != api.ErrRange || p.write(1, 1, textOf(0, 96)) != api.ErrRange {
		t.Error("just behind it")
	}
	if p.write(1, 96, "") != api.OK || p.write(1, 95, "z") != api.OK || p.write(1, 0, textOf(5, 96)) != api.OK || p.write(1, 90, "123456") != api.OK {
		t.Error("just there")
	}
	p.told("behind it")
	if got := p.s.Sectors(1); !slices.Equal(got, []int{0, 1, 2}) || p.s.Left() != 1 {
		t.Error(got, p.s.Left())
	}
}

// TestP22_2WriteNothing: it is no error where an offset may be, and needs no sector.
func TestP22_2WriteNothing(t *testing.T) {
	p := pairOf(t, 1, "a", "b")
	p.write(2, 0, textOf(1, 32))
	if p.write(1, 0, "") != api.OK || len(p.s.Sectors(1)) != 0 {
		t.Error(p.s.Sectors(1))
	}
	for _, off := range []int{0, 1, 31, 32} {
		if e := p.write(2, off, ""); e != api.OK {
			t.Error(off, e)
		}
	}
	if p.write(1, 1, "") != api.ErrRange || p.write(2, 33, "") != api.ErrRange || p.write(2, -1, "") != api.ErrRange {
		t.Error("where no offset may be")
	}
	p.told("nothing")
}

// TestP22_2WriteOver: what is written over the ends of sectors stands in the right ones; what lies around it stays.
func TestP22_2WriteOver(t *testing.T) {
	p := pairOf(t, 3, "a")
	p.write(1, 0, strings.Repeat(".", 80))
	p.write(1, 30, "abcd")
	if text, e := p.s.Read(1, 28, 8); text != "..abcd.." || e != api.OK {
		t.Error(text, e)
	}
	p.write(1, 20, strings.Repeat("x", 50))
	want := strings.Repeat(".", 20) + strings.Repeat("x", 50) + strings.Repeat(".", 10)
	if text, e := p.s.Read(1, 0, 96); text != want || e != api.OK {
		t.Error(text, e)
	}
	p.write(1, 79, "yz")
	if size, e := p.s.Size(1); size != 81 || e != api.OK {
		t.Error(size, e)
	}
	p.told("over")
	for sector, want := range []string{want[:32], want[32:64], want[64:79] + "yz"} {
		b, _ := p.s.ground.Sector(sector)
		if got := strings.TrimRight(string(b), "\x00"); got != want {
			t.Errorf("sector %d: %q", sector, got)
		}
	}
}

// TestP22_2WriteSpace: with just as many free sectors as it needs, and with one less: then all is as it was.
func TestP22_2WriteSpace(t *testing.T) {
	for _, c := range []struct{ size, off, many, needs int }{
		{0, 0, 1, 1}, {0, 0, 32, 1}, {0, 0, 33, 2}, {0, 0, 64, 2}, {0, 0, 65, 3}, {0, 0, 96, 3},
		{1, 1, 32, 1}, {32, 32, 1, 1}, {32, 0, 33, 1}, {32, 31, 2, 1}, {31, 31, 2, 1}, {40, 10, 80, 1}, {64, 64, 32, 1}, {30, 0, 96, 2},
		{32, 32, 64, 2}, {32, 0, 32, 0}, {31, 31, 1, 0}, {96, 0, 96, 0}, {64, 33, 31, 0}, {96, 96, 0, 0},
	} {
		for free := range 5 {
			had := (c.size + 31) / 32
			if had+free == 0 {
				continue
			}
			p := pairOf(t, had+free, "a")
			p.write(1, 0, textOf(1, c.size))
			p.told("ahead of it")
			wanted := api.OK
			if free < c.needs {
				wanted = api.ErrSpace
			}
			if e := p.write(1, c.off, textOf(50, c.many)); e != wanted {
				t.Fatal(c, free, e)
			}
			want := free
			if wanted == api.OK {
				want -= c.needs
			}
			if p.s.Left() != want {
				t.Fatal(c, free, p.s.Left())
			}
			p.told("behind it")
		}
	}
}

// TestP22_2NextSector: the least ones that are free, one by one, in the order of the file's bytes.
func TestP22_2NextSector(t *testing.T) {
	p := pairOf(t, 8, "a", "b", "c", "d")
	p.write(1, 0, textOf(1, 64))
	p.write(2, 0, textOf(2, 20))
	p.write(3, 0, textOf(3, 64))
	p.write(4, 0, textOf(4, 32))
	// 0 1: a, 2: b, 3 4: c, 5: d
	p.unlink("c")
	p.write(4, 32, textOf(5, 1))
	if got := p.s.Sectors(4); !slices.Equal(got, []int{5, 3}) {
		t.Error(got)
	}
	p.unlink("a")
	p.write(4, 33, textOf(6, 60))
	if got := p.s.Sectors(4); !slices.Equal(got, []int{5, 3, 0}) {
		t.Error(got)
	}
	p.told("downwards")
	p.make("e")
	p.write(5, 0, textOf(7, 96))
	if got := p.s.Sectors(5); !slices.Equal(got, []int{1, 4, 6}) {
		t.Error(got)
	}
	p.told("in the midst")
	if text, e := p.s.Read(4, 0, 96); text != textOf(4, 32)+textOf(5, 1)+textOf(6, 60) || e != api.OK {
		t.Errorf("%q %d", text, e)
	}
	if text, e := p.s.Read(5, 0, 96); text != textOf(7, 96) || e != api.OK {
		t.Errorf("%q %d", text, e)
	}
}

// TestP22_2Read: at all offsets, so many bytes as there are.
func TestP22_2Read(t *testing.T) {
	for _, size := range []int{0, 1, 31, 32, 33, 70, 96} {
		p := pairOf(t, 4, "a")
		text := textOf(3, size)
		p.write(1, 0, text)
		for off := range 100 {
			for _, many := range []int{0, 1, 2, 31, 32, 33, 64, 95, 96, 97, math.MaxInt} {
				want := ""
				if off < size {
					want = text[off:]
				}
				if many < len(want) {
					want = want[:many]
				}
				if got, e := p.s.Read(1, off, many); got != want || e != api.OK {
					t.Fatalf("Read %d %d of %d: %q %d", off, many, size, got, e)
				}
			}
		}
		p.told("nothing was changed")
	}
}

// TestP22_2ReadRange: below 0, and far behind the end, where both numbers together are too great.
func TestP22_2ReadRange(t *testing.T) {
	p := pairOf(t, 4, "a", "b")
	p.write(1, 0, "some text")
	below := []int{-1, -2, -9, -96, -1 << 32, math.MinInt}
	for _, low := range below {
		for _, other := range append([]int{0, 1, 9, math.MaxInt}, below...) {
			for n := 1; n <= 2; n++ {
				if text, e := p.s.Read(n, low, other); text != "" || e != api.ErrRange {
					t.Error(n, low, other, text, e)
				}
				if text, e := p.s.Read(n, other, low); text != "" || e != api.ErrRange {
					t.Error(n, other, low, text, e)
				}
			}
		}
	}
	for _, off := range []int{9, 10, 96, 97, 1 << 32, math.MaxInt - 1, math.MaxInt} {
		for _, many := range []int{0, 1, 96, math.MaxInt - 1, math.MaxInt} {
			if text, e := p.s.Read(1, off, many); text != "" || e != api.OK {
				t.Error(off, many, text, e)
			}
		}
	}
	if text, e := p.s.Read(1, 5, math.MaxInt); text != "text" || e != api.OK {
		t.Error(text, e)
	}
	p.told("nothing was changed")
}

// TestP22_4AnyBytes: each byte that was written is read, text or not.
func TestP22_4AnyBytes(t *testing.T) {
	p := pairOf(t, 3, "a")
	for from := 0; from < 256; from += 64 {
		var b []byte
		for n := range 64 {
			b = append(b, byte(from+n))
		}
		for off := range 33 {
			p.write(1, 0, strings.Repeat("-", off))
			if e := p.write(1, off, string(b)); e != api.OK {
				t.Fatal(from, off, e)
			}
			if text, e := p.s.Read(1, off, 64); text != string(b) || e != api.OK {
				t.Fatalf("%d %d: %q %d", from, off, text, e)
			}
		}
	}
	for _, text := range []string{"\xff\xfe", "\x00\x00\x00", "ω\xceω", "\r\n\x1b"} {
		p.write(1, 31, text)
		if got, e := p.s.Read(1, 31, len(text)); got != text || e != api.OK {
			t.Errorf("%q: %q %d", text, got, e)
		}
	}
}

// TestP22_5NoTwo: all files with all their sectors, of which none belongs to two.
func TestP22_5NoTwo(t *testing.T) {
	p := pairOf(t, 64, "a", "b", "c", "d", "e", "f")
	for round := range 3 {
		for n := 1; n <= 6; n++ {
			if e := p.write(n, 32*round, textOf(n*10+round, 32)); e != api.OK {
				t.Fatal(n, round, e)
			}
		}
	}
	if p.s.Left() != 46 {
		t.Error(p.s.Left())
	}
	for n := 1; n <= 6; n++ {
		if got := p.s.Sectors(n); !slices.Equal(got, []int{n - 1, n + 5, n + 11}) {
			t.Error(n, got)
		}
	}
	p.told("all")
}

// TestP22_6AllFree: when all files are gone all sectors are free, and 0, and can all be given.
func TestP22_6AllFree(t *testing.T) {
	p := pairOf(t, 18)
	for round := range 4 {
		names := []string{"a", "b", "c", "d", "e", "f"}
		for i, name := range names {
			n := p.make(name)
			p.write(n, 0, textOf(i+round, 96))
			if i%2 == 0 {
				p.hold(n, true)
			}
		}
		if p.s.Left() != 0 {
			t.Error(p.s.Left())
		}
		for _, name := range names {
			p.unlink(name)
		}
		p.told("without names")
		if p.s.Left() != 9 {
			t.Error(p.s.Left())
		}
		for i := 0; i < 6; i += 2 {
			p.hold(p.want.last-5+i, false)
		}
		if p.s.Left() != 18 {
			t.Error(p.s.Left())
		}
		p.told("none")
	}
}

// TestE4Left: what ends leaves nothing in its sectors, so that nobody reads there what was another's.
func TestE4Left(t *testing.T) {
	p := pairOf(t, 3, "a")
	p.write(1, 0, strings.Repeat("s", 96))
	p.unlink("a")
	for sector := range 3 {
		if b, _ := p.s.ground.Sector(sector); string(b) != string(make([]byte, 32)) {
			t.Error(sector, b)
		}
	}
	p.make("b")
	p.write(2, 0, "x")
	if text, e := p.s.Read(2, 0, 96); text != "x" || e != api.OK {
		t.Error(text, e)
	}
	if b, _ := p.s.ground.Sector(0); string(b) != "x"+string(make([]byte, 31)) {
		t.Error(b)
	}
	p.told("given again")
}

// TestE2OwnSectors: what a file touches are sectors that are bound, and its own: all others keep their bytes, whatever is written.
func TestE2OwnSectors(t *testing.T) {
	p := pairOf(t, 7, "a", "b", "c")
	for n := 1; n <= 3; n++ {
		p.write(n, 0, textOf(n, 40))
	}
	p.unlink("b")
	all := func() []string {
		var l []string
		for sector := range 7 {
			b, _ := p.s.ground.Sector(sector)
			l = append(l, string(b))
		}
		return l
	}
	for _, n := range []int{1, 3, 2, 9} {
		for off := range 41 {
			before := all()
			p.write(n, off, textOf(off, 20))
			for sector, b := range all() {
				if b != before[sector] && !slices.Contains(p.s.Sectors(n), sector) {
					t.Fatal(n, off, sector, "is another's")
				}
			}
			p.told("written")
		}
	}
}
