package mem

import (
	"bytes"
	"math"
	"slices"
	"testing"

	"embrasure/api"
)

// outside are numbers that no frame of a memory of size ones has.
func outside(size int) []int {
	return []int{math.MinInt, -65536, -size, -1, size, size + 1, 64, 65, 256, 65536, math.MaxInt32, math.MaxInt - 1, math.MaxInt}
}

// filled is a memory in which every byte but 0 comes up, frame by frame otherwise.
func filled(t *testing.T, size int) *Memory {
	t.Helper()
	m := New(size)
	for f := range size {
		for off := range 32 {
			if e := m.SetByte(f, off, pattern(f, off)); e != api.OK {
				t.Fatal(f, off, e)
			}
		}
	}
	return m
}

func pattern(f, off int) byte {
	return byte(1 + (f*37+off*11)%255)
}

// all are a memory's bytes, one frame behind the other.
func all(t *testing.T, m *Memory) []byte {
	t.Helper()
	var l []byte
	for f := range m.Size() {
		b, e := m.Frame(f)
		if e != api.OK || len(b) != 32 {
			t.Fatal(f, b, e)
		}
		l = append(l, b...)
	}
	return l
}

// same holds a memory's bytes against those that are asked for.
func same(t *testing.T, what string, m *Memory, want []byte) {
	t.Helper()
	if got := all(t, m); !bytes.Equal(got, want) {
		t.Fatalf("%s: %v, not %v", what, got, want)
	}
}

func TestP6_1New(t *testing.T) {
	for n := 1; n <= 64; n++ {
		m := New(n)
		if m == nil || m.Size() != n {
			t.Fatal(n, m)
		}
		same(t, "new", m, make([]byte, 32*n))
	}
}

func TestE7NoMemoryBeyondTheLimit(t *testing.T) {
	for _, n := range []int{math.MinInt, -65, -64, -1, 0, 65, 66, 128, 65536, math.MaxInt32, math.MaxInt} {
		if m := New(n); m != nil {
			t.Error(n, m.Size())
		}
	}
}

// TestP6_1NewOnesAreApart: what is written to one is not in the next one.
func TestP6_1NewOnesAreApart(t *testing.T) {
	a := filled(t, 2)
	same(t, "the next one", New(2), make([]byte, 64))
	same(t, "the first one", a, all(t, filled(t, 2)))
}

func TestP6_1Example(t *testing.T) {
	m := New(1)
	if e := m.SetWord(0, 3, 0x0102); e != api.OK {
		t.Error(e)
	}
	want := make([]byte, 32)
	want[3], want[4] = 1, 2
	same(t, "the example", m, want)
}

func TestP6_1WordByte(t *testing.T) {
	for _, size := range []int{1, 2, 5, 64} {
		m := filled(t, size)
		for f := range size {
			for off := -40; off <= 40; off++ {
				w, e := m.Word(f, off)
				if off >= 0 && off <= 30 {
					if int(w) != int(pattern(f, off))*256+int(pattern(f, off+1)) || e != api.OK {
						t.Fatal("Word", f, off, w, e)
					}
				} else if w != 0 || e != api.ErrRange {
					t.Fatal("Word", f, off, w, e)
				}
				b, e := m.Byte(f, off)
				if off >= 0 && off <= 31 {
					if b != pattern(f, off) || e != api.OK {
						t.Fatal("Byte", f, off, b, e)
					}
				} else if b != 0 || e != api.ErrRange {
					t.Fatal("Byte", f, off, b, e)
				}
			}
		}
	}
}

func TestP6_1SetWordSetByte(t *testing.T) {
	for f := range 3 {
		for off := range 32 {
			m := filled(t, 3)
			want := all(t, m)
			want[f*32+off] = 0xee
			if e := m.SetByte(f, off, 0xee); e != api.OK {
				t.Fatal(f, off, e)
			}
			same(t, "SetByte", m, want)
			if off > 30 {
				continue
			}
			want[f*32+off], want[f*32+off+1] = 0xab, 0xcd
			if e := m.SetWord(f, off, 0xabcd); e != api.OK {
				t.Fatal(f, off, e)
			}
			same(t, "SetWord", m, want)
		}
	}
}

func TestP6_1AllWordsAndBytes(t *testing.T) {
	m := New(1)
	for n := range 65536 {
		if m.SetWord(0, 30, api.Word(n)) != api.OK {
			t.Fatal(n)
		}
		high, _ := m.Byte(0, 30)
		low, _ := m.Byte(0, 31)
		if w, e := m.Word(0, 30); int(w) != n || e != api.OK || int(high)*256+int(low) != n {
			t.Fatal(n, w, high, low)
		}
	}
}

// TestP6_1WrongPlaces: what is not there is refused by every call, and nothing changes.
func TestP6_1WrongPlaces(t *testing.T) {
	m := filled(t, 3)
	want := all(t, m)
	refused := func(what string, at int, e api.Errno) {
		t.Helper()
		if e != api.ErrRange {
			t.Error(what, at, e)
		}
	}
	for _, f := range outside(3) {
		w, e := m.Word(f, 0)
		refused("Word", f, e)
		b, e := m.Byte(f, 0)
		refused("Byte", f, e)
		l, e := m.Frame(f)
		refused("Frame", f, e)
		if w != 0 || b != 0 || len(l) != 0 || m.Clean(f) || len(m.Same(f)) != 0 {
			t.Error(f, w, b, l, m.Clean(f), m.Same(f))
		}
		refused("SetWord", f, m.SetWord(f, 0, 7))
		refused("SetByte", f, m.SetByte(f, 0, 7))
		refused("Zero", f, m.Zero(f))
		refused("Copy to", f, m.Copy(f, 0))
		refused("Copy from", f, m.Copy(0, f))
		refused("Copy both", f, m.Copy(f, f))
		refused("Fill", f, m.Fill(f, 0, 7))
		refused("Fill of none", f, m.Fill(f, 0))
	}
	for _, off := range outside(32) {
		for f := range 3 {
			_, e := m.Word(f, off)
			refused("Word", off, e)
			_, e = m.Byte(f, off)
			refused("Byte", off, e)
			refused("SetWord", off, m.SetWord(f, off, 7))
			refused("SetByte", off, m.SetByte(f, off, 7))
			refused("Fill", off, m.Fill(f, off, 7))
			refused("Fill of none", off, m.Fill(f, off))
		}
	}
	for f := range 3 { // a word does not lie over two frames
		refused("SetWord", 31, m.SetWord(f, 31, 7))
	}
	same(t, "wrong places", m, want)
}

func TestP6_1ZeroCopy(t *testing.T) {
	for to := range 4 {
		m := filled(t, 4)
		want := all(t, m)
		if e := m.Zero(to); e != api.OK {
			t.Fatal(e)
		}
		clear(want[to*32 : to*32+32])
		same(t, "Zero", m, want)
		for from := range 4 {
			m := filled(t, 4)
			want := all(t, m)
			if e := m.Copy(to, from); e != api.OK {
				t.Fatal(to, from, e)
			}
			copy(want[to*32:to*32+32], want[from*32:])
			same(t, "Copy", m, want)
		}
	}
}

// TestP6_1CopyIsNotShared: what is written behind a Copy is written to one frame alone.
func TestP6_1CopyIsNotShared(t *testing.T) {
	m := filled(t, 2)
	m.Copy(1, 0)
	m.SetByte(0, 5, 0)
	m.SetByte(1, 6, 0)
	a, _ := m.Byte(1, 5)
	b, _ := m.Byte(0, 6)
	if a != pattern(0, 5) || b != pattern(0, 6) {
		t.Error(a, b)
	}
}

// TestP6_2FillAnywhere: every place, and every number of bytes up to the end of all and behind it.
func TestP6_2FillAnywhere(t *testing.T) {
	for size := 1; size <= 3; size++ {
		first := all(t, filled(t, size))
		for f := range size {
			for off := range 32 {
				room := size*32 - f*32 - off
				for many := range room + 3 {
					b := make([]byte, many)
					for k := range b {
						b[k] = byte(200 + k)
					}
					m := filled(t, size)
					e := m.Fill(f, off, b...)
					if (e == api.OK) != (many <= room) || e != api.OK && e != api.ErrRange {
						t.Fatal(size, f, off, many, e)
					}
					want := bytes.Clone(first)
					if e == api.OK {
						copy(want[f*32+off:], b)
					}
					same(t, "Fill", m, want)
				}
			}
		}
	}
}

func TestP6_2FillGreat(t *testing.T) {
	m := New(64)
	b := make([]byte, 64*32+1)
	for k := range b {
		b[k] = byte(k%251 + 1)
	}
	if e := m.Fill(0, 0, b...); e != api.ErrRange {
		t.Error(e)
	}
	same(t, "one byte more", m, make([]byte, 64*32))
	if e := m.Fill(0, 0, b[1:]...); e != api.OK {
		t.Error(e)
	}
	same(t, "all", m, b[1:])
	if e := m.Fill(0, 1, b[1:]...); e != api.ErrRange {
		t.Error(e)
	}
	if e := m.Fill(63, 31, make([]byte, 1<<20)...); e != api.ErrRange {
		t.Error(e)
	}
	if m.Fill(63, 31) != api.OK || m.Fill(0, 0, nil...) != api.OK || m.Fill(63, 32) != api.ErrRange || m.Fill(64, 0) != api.ErrRange {
		t.Error("of no byte")
	}
	same(t, "of no byte", m, b[1:])
}

func TestP6_2CleanSame(t *testing.T) {
	m := New(6)
	for f := range 6 {
		if !m.Clean(f) {
			t.Error(f)
		}
	}
	if l := m.Same(2); !slices.Equal(l, []int{0, 1, 3, 4, 5}) {
		t.Error(l)
	}
	for off := range 32 { // each byte matters
		m.SetByte(3, off, 1)
		if m.Clean(3) || len(m.Same(3)) != 0 || !slices.Equal(m.Same(0), []int{1, 2, 4, 5}) {
			t.Error(off, m.Same(3), m.Same(0))
		}
		m.SetByte(3, off, 0)
	}
	m.SetByte(1, 31, 9)
	m.SetByte(4, 31, 9)
	for f, want := range [][]int{{2, 3, 5}, {4}, {0, 3, 5}, {0, 2, 5}, {1}, {0, 2, 3}} {
		if l := m.Same(f); !slices.Equal(l, want) {
			t.Error(f, l)
		}
	}
	// Frames that are not there are like none.
	if l := New(1).Same(0); len(l) != 0 {
		t.Error(l)
	}
	if l := New(64).Same(63); len(l) != 63 || l[0] != 0 || l[62] != 62 {
		t.Error(l)
	}
}

func TestP1NilMemory(t *testing.T) {
	var m *Memory
	for _, n := range append(outside(3), 0, 1, 31) {
		w, e1 := m.Word(n, n)
		b, e2 := m.Byte(n, n)
		l, e3 := m.Frame(n)
		if w != 0 || b != 0 || len(l) != 0 {
			t.Error(n, w, b, l)
		}
		for k, e := range []api.Errno{
			e1, e2, e3, m.SetWord(n, n, 1), m.SetByte(n, n, 1), m.Zero(n), m.Copy(n, n), m.Copy(n, 0), m.Fill(n, n), m.Fill(n, n, 1, 2), m.Fill(n, n, nil...),
		} {
			if e != api.ErrNil {
				t.Error(n, k, e)
			}
		}
		if m.Clean(n) || len(m.Same(n)) != 0 {
			t.Error(n)
		}
	}
	if m.Size() != 0 || m.Fork() != nil {
		t.Error(m.Size(), m.Fork())
	}
}

func TestP4Fork(t *testing.T) {
	m := filled(t, 3)
	want := all(t, m)
	f := m.Fork()
	if f == m || f.Size() != 3 {
		t.Fatal(f.Size())
	}
	same(t, "the fork", f, want)
	change := func(m *Memory) {
		m.SetByte(0, 0, 250)
		m.SetWord(0, 30, 0xfafa)
		m.Zero(1)
		m.Copy(2, 1)
		m.Fill(0, 20, 1, 2, 3, 4, 5, 6, 7, 8, 9, 10, 11, 12, 13, 14)
	}
	change(f)
	same(t, "the first one", m, want)
	if bytes.Equal(all(t, f), want) {
		t.Error("the fork did not change")
	}
	f = m.Fork()
	change(m)
	same(t, "the second fork", f, want)
	g := f.Fork()
	change(g)
	same(t, "behind a fork's fork", f, want)
}

func TestP3BytesAreTheCallers(t *testing.T) {
	m := filled(t, 2)
	want := all(t, m)
	a, _ := m.Frame(0)
	b, _ := m.Frame(0)
	clear(a)
	if !bytes.Equal(b, want[:32]) {
		t.Error("two answers share bytes")
	}
	clear(append(b, 1, 2, 3)[:cap(b)])
	same(t, "what was handed out", m, want)
	c, _ := m.Frame(0)
	m.Zero(0)
	if !bytes.Equal(c, want[:32]) {
		t.Error("what was handed out changed")
	}
	m = New(4)
	l, k := m.Same(1), m.Same(1)
	l[0] = 9
	if !slices.Equal(k, []int{0, 2, 3}) || !slices.Equal(m.Same(1), []int{0, 2, 3}) {
		t.Error(k, m.Same(1))
	}
}

func TestP3FillLeavesBytes(t *testing.T) {
	room := []byte{1, 2, 3, 4, 5, 6, 7, 8}
	m := New(2)
	if m.Fill(0, 30, room[:5]...) != api.OK || m.Fill(1, 31, room[:5]...) != api.ErrRange {
		t.Error("Fill")
	}
	if !bytes.Equal(room, []byte{1, 2, 3, 4, 5, 6, 7, 8}) {
		t.Error(room)
	}
	want := all(t, m)
	clear(room)
	same(t, "behind the caller's change", m, want)
	m.Zero(1)
	m.SetByte(0, 31, 77)
	if !bytes.Equal(room, make([]byte, 8)) {
		t.Error(room)
	}
}

// TestP6_3AnyOrder holds a memory against plain bytes, through calls made by a rule, wrong ones among them.
func TestP6_3AnyOrder(t *testing.T) {
	seed := uint32(7)
	chance := func(n int) int {
		seed = seed*1664525 + 1013904223
		return int(seed>>8) % n
	}
	const size = 5
	m, model := New(size), make([]byte, size*32)
	there := func(f, off, many, last int) bool {
		return f >= 0 && f < size && off >= 0 && off <= last && f*32+off+many <= size*32
	}
	for range 20000 {
		f, g, off := chance(size+2)-1, chance(size+2)-1, chance(36)-2
		b := make([]byte, chance(80))
		for k := range b {
			b[k] = byte(chance(256))
		}
		var ok bool
		var e api.Errno
		switch chance(5) {
		case 0:
			w := chance(65536)
			e, ok = m.SetWord(f, off, api.Word(w)), there(f, off, 2, 30)
			if ok {
				model[f*32+off], model[f*32+off+1] = byte(w/256), byte(w%256)
			}
		case 1:
			n := chance(256)
			e, ok = m.SetByte(f, off, byte(n)), there(f, off, 1, 31)
			if ok {
				model[f*32+off] = byte(n)
			}
		case 2:
			e, ok = m.Zero(f), there(f, 0, 32, 0)
			if ok {
				clear(model[f*32 : f*32+32])
			}
		case 3:
			e, ok = m.Copy(f, g), there(f, 0, 32, 0) && there(g, 0, 32, 0)
			if ok {
				copy(model[f*32:f*32+32], model[g*32:])
			}
		case 4:
			e, ok = m.Fill(f, off, b...), there(f, off, len(b), 31)
			if ok {
				copy(model[f*32+off:], b)
			}
		}
		if ok != (e == api.OK) || !ok && e != api.ErrRange {
			t.Fatal(f, g, off, len(b), e)
		}
		same(t, "any order", m, model)
	}
}
