package pipe

import (
	"math"
	"strings"
	"testing"

	"embrasure/api"
)

const letters = "abcdefghijklmnopqrstuvwxyz0123456789"

// wrote writes, and holds the answer against what is asked for.
func wrote(t *testing.T, p *Pipe, data string, want int, wanted api.Errno) {
	t.Helper()
	if many, e := p.Write(data); many != want || e != wanted {
		t.Errorf("Write %q: %d %d, not %d %d", data, many, e, want, wanted)
	}
}

// came reads, and holds the answer against what is asked for.
func came(t *testing.T, p *Pipe, many int, want string, wanted api.Errno) {
	t.Helper()
	if text, e := p.Read(many); text != want || e != wanted {
		t.Errorf("Read %d: %q %d, not %q %d", many, text, e, want, wanted)
	}
}

// holds holds what is in a pipe against what is asked for.
func holds(t *testing.T, p *Pipe, want string) {
	t.Helper()
	if got := p.Text(); got != want {
		t.Errorf("Text %q, not %q", got, want)
	}
}

// opened is a pipe that is open once to read and once to write, with a text in it.
func opened(t *testing.T, text string) *Pipe {
	t.Helper()
	p := New()
	if p.Open(false) != api.OK || p.Open(true) != api.OK {
		t.Fatal("Open")
	}
	for n := range len(text) {
		wrote(t, p, text[n:n+1], 1, api.OK)
	}
	return p
}

func TestP20_1Example(t *testing.T) {
	p := New()
	if p.Open(true) != api.OK || p.Open(false) != api.OK {
		t.Error("Open")
	}
	wrote(t, p, "hello", 5, api.OK)
	came(t, p, 2, "he", api.OK)
	holds(t, p, "llo")
}

func TestP20_1New(t *testing.T) {
	p := New()
	if p == nil || p.Count(false) != 0 || p.Count(true) != 0 {
		t.Fatal("a new one")
	}
	holds(t, p, "")
	p.Open(false)
	wrote(t, p, "x", 1, api.OK)
	other := New()
	if other == p || other.Count(false) != 0 || other.Text() != "" {
		t.Error("the next one has something of the first one")
	}
}

// TestP20_1Open: 100 times to read, and as often to write, each for itself.
func TestP20_1Open(t *testing.T) {
	for _, write := range []bool{false, true} {
		p := New()
		for n := range 100 {
			if e := p.Open(write); e != api.OK || p.Count(write) != n+1 || p.Count(!write) != 0 {
				t.Fatal(write, n, e, p.Count(write), p.Count(!write))
			}
		}
		for range 3 {
			if e := p.Open(write); e != api.ErrSpace || p.Count(write) != 100 || p.Count(!write) != 0 {
				t.Error(write, e, p.Count(write), p.Count(!write))
			}
		}
		if p.Close(write) != api.OK || p.Count(write) != 99 || p.Open(write) != api.OK || p.Open(write) != api.ErrSpace {
			t.Error(write, p.Count(write))
		}
		for n := range 100 {
			if e := p.Open(!write); e != api.OK || p.Count(!write) != n+1 || p.Count(write) != 100 {
				t.Fatal(write, n, e)
			}
		}
		if e := p.Open(!write); e != api.ErrSpace {
			t.Error(write, e)
		}
		for n := range 100 {
			if e := p.Close(write); e != api.OK || p.Count(write) != 99-n || p.Count(!write) != 100 {
				t.Fatal(write, n, e)
			}
		}
		if e := p.Close(write); e != api.ErrState || p.Count(write) != 0 || p.Count(!write) != 100 {
			t.Error(write, e)
		}
	}
}

// TestP20_1Close: of one that is not open so; the bytes stay.
func TestP20_1Close(t *testing.T) {
	p := New()
	for _, write := range []bool{false, true, false} {
		if e := p.Close(write); e != api.ErrState {
			t.Error(write, e)
		}
	}
	p.Open(true)
	if p.Close(false) != api.ErrState || p.Count(true) != 1 || p.Close(true) != api.OK || p.Close(true) != api.ErrState {
		t.Error("open to write")
	}
	p.Open(false)
	wrote(t, p, "abc", 3, api.OK)
	if p.Close(true) != api.ErrState || p.Count(false) != 1 || p.Close(false) != api.OK || p.Close(false) != api.ErrState {
		t.Error("open to read")
	}
	if p.Count(true) != 0 || p.Count(false) != 0 {
		t.Error(p.Count(true), p.Count(false))
	}
	holds(t, p, "abc")
	p.Open(false)
	holds(t, p, "abc")
}

// TestP20_1WriteState: with nobody to read, ahead of all else; whether it is open to write is not asked.
func TestP20_1WriteState(t *testing.T) {
	p := New()
	for _, data := range []string{"", "x", letters} {
		wrote(t, p, data, 0, api.ErrState)
	}
	p.Open(true)
	for _, data := range []string{"", "x", letters} {
		wrote(t, p, data, 0, api.ErrState)
	}
	holds(t, p, "")
	p.Open(false)
	p.Close(true)
	wrote(t, p, letters, 24, api.OK)
	p.Close(false)
	for _, data := range []string{"", "x", letters} {
		wrote(t, p, data, 0, api.ErrState)
	}
	holds(t, p, letters[:24])
}

// TestP20_1WriteNothing: 0, however full it is.
func TestP20_1WriteNothing(t *testing.T) {
	for many := range 25 {
		p := opened(t, letters[:many])
		wrote(t, p, "", 0, api.OK)
		holds(t, p, letters[:many])
	}
}

// TestP20_4Atomic: each number of bytes at each room: at most Atomic whole or not at all, more as far as there is room.
func TestP20_4Atomic(t *testing.T) {
	for full := range 25 {
		for many := 1; many <= 36; many++ {
			p, room := opened(t, strings.Repeat("-", full)), 24-full
			done, e := min(many, room), api.OK
			if room == 0 || many <= 8 && many > room {
				done, e = 0, api.ErrAgain
			}
			wrote(t, p, letters[:many], done, e)
			holds(t, p, strings.Repeat("-", full)+letters[:done])
			if p.Count(false) != 1 || p.Count(true) != 1 {
				t.Fatal(full, many, p.Count(false), p.Count(true))
			}
		}
	}
}

// TestP20_1WriteEdges: Atomic bytes and one more, with just as much room, with one byte less, with one and with none.
func TestP20_1WriteEdges(t *testing.T) {
	for _, c := range []struct {
		full, many, done int
		e                api.Errno
	}{
		{16, 8, 8, api.OK}, {17, 8, 0, api.ErrAgain}, {23, 8, 0, api.ErrAgain}, {24, 8, 0, api.ErrAgain},
		{15, 9, 9, api.OK}, {16, 9, 8, api.OK}, {17, 9, 7, api.OK}, {23, 9, 1, api.OK}, {24, 9, 0, api.ErrAgain},
		{23, 1, 1, api.OK}, {24, 1, 0, api.ErrAgain}, {23, 2, 0, api.ErrAgain}, {22, 2, 2, api.OK},
		{0, 24, 24, api.OK}, {0, 25, 24, api.OK}, {1, 24, 23, api.OK}, {24, 25, 0, api.ErrAgain}, {24, 36, 0, api.ErrAgain},
	} {
		p := opened(t, letters[:c.full])
		wrote(t, p, letters[:c.many], c.done, c.e)
		holds(t, p, letters[:c.full]+letters[:c.done])
	}
	p := opened(t, "")
	wrote(t, p, strings.Repeat("x", 1<<20), 24, api.OK)
	wrote(t, p, strings.Repeat("x", 1<<20), 0, api.ErrAgain)
	holds(t, p, strings.Repeat("x", 24))
}

// TestP20_1Read: fewer than there are, as many, and more; what is read is out.
func TestP20_1Read(t *testing.T) {
	for full := 1; full <= 24; full++ {
		for _, many := range []int{1, 2, full - 1, full, full + 1, 24, 25, 1 << 32, math.MaxInt} {
			if many == 0 {
				continue
			}
			p, done := opened(t, letters[:full]), min(many, full)
			came(t, p, many, letters[:done], api.OK)
			holds(t, p, letters[done:full])
			if p.Count(false) != 1 || p.Count(true) != 1 {
				t.Fatal(full, many)
			}
		}
	}
}

// TestP20_1ReadEdges: below 0, of 0, of an empty one that is open to write and of one that is not, with bytes and nobody to write, with nobody to read.
func TestP20_1ReadEdges(t *testing.T) {
	p := New()
	for _, many := range []int{-1, -2, -24, math.MinInt, -1 << 32} {
		came(t, p, many, "", api.ErrRange)
	}
	for _, many := range []int{0, 1, 24, math.MaxInt} {
		came(t, p, many, "", api.OK)
	}
	p.Open(true)
	came(t, p, -1, "", api.ErrRange)
	came(t, p, 0, "", api.OK)
	for _, many := range []int{1, 24, 25, math.MaxInt} {
		came(t, p, many, "", api.ErrAgain)
	}
	p.Open(true)
	p.Close(true)
	came(t, p, 1, "", api.ErrAgain)
	p.Open(false)
	wrote(t, p, "abc", 3, api.OK)
	came(t, p, -1, "", api.ErrRange)
	came(t, p, 0, "", api.OK)
	holds(t, p, "abc")
	p.Close(true)
	p.Close(false)
	came(t, p, 0, "", api.OK)
	came(t, p, -1, "", api.ErrRange)
	came(t, p, 2, "ab", api.OK)
	came(t, p, 2, "c", api.OK)
	came(t, p, 2, "", api.OK)
	p.Open(false)
	came(t, p, 2, "", api.OK)
	p.Open(true)
	came(t, p, 2, "", api.ErrAgain)
	holds(t, p, "")
}

// TestP20_3Round: bytes go round the end of the room many times, at each place of it, as they were written.
func TestP20_3Round(t *testing.T) {
	for step := 1; step <= 24; step++ {
		for behind := 0; behind+step <= 24; behind += 5 {
			x, next := pairOf(t, 1, 1), 0
			take := func(many int) string {
				b := make([]byte, many)
				for n := range b {
					b[n] = byte(next % 251)
					next++
				}
				return string(b)
			}
			if behind > 0 {
				x.write(take(behind))
			}
			for range 60 {
				x.write(take(step))
				x.read(step)
			}
			if len(x.p.Text()) != behind {
				t.Fatal(step, behind, len(x.p.Text()))
			}
		}
	}
}

// TestP20_3Bytes: all bytes come through, those that are no text, too, and 0.
func TestP20_3Bytes(t *testing.T) {
	p := opened(t, "")
	for b := range 256 {
		wrote(t, p, string([]byte{byte(b)}), 1, api.OK)
		holds(t, p, string([]byte{byte(b)}))
		came(t, p, 5, string([]byte{byte(b)}), api.OK)
	}
	odd := "\x00\xff\xc3\xe2\x82\x80\n\xf0β☃\xed\xa0\x80"
	wrote(t, p, odd, len(odd), api.OK)
	holds(t, p, odd)
	came(t, p, 9, odd[:9], api.OK)
	came(t, p, 99, odd[9:], api.OK)
}

// TestP20_3AnyOrder holds a pipe against a text, in any order of calls.
func TestP20_3AnyOrder(t *testing.T) {
	for seed := range uint32(40) {
		chance := chances(seed)
		x := pairOf(t, chance(3), chance(3))
		for range 1500 {
			x.step(chance)
		}
	}
}

// step does one thing by chance, seldom a wrong one.
func (x *pair) step(chance func(int) int) {
	x.t.Helper()
	switch chance(20) {
	case 0, 1:
		x.open(chance(2) == 0)
	case 2, 3:
		x.close(chance(2) == 0)
	case 4:
		x.read([]int{-1, 0, math.MinInt, math.MaxInt}[chance(4)])
	case 5, 6, 7, 8, 9, 10:
		x.read(chance(12))
	case 11:
		x.write(someBytes(chance, chance(60)))
	default:
		x.write(someBytes(chance, chance(11)))
	}
}

// TestP20_3WhatWasWritten: all that was written, one behind the other, is what is read, one behind the other.
func TestP20_3WhatWasWritten(t *testing.T) {
	chance := chances(77)
	p := opened(t, "")
	var in, out strings.Builder
	for range 5000 {
		data := someBytes(chance, chance(30))
		many, e := p.Write(data)
		if e != api.OK && many != 0 || many > len(data) || many < len(data) && many > 0 && len(data) <= 8 {
			t.Fatal(len(data), many, e)
		}
		in.WriteString(data[:many])
		text, _ := p.Read(chance(30))
		out.WriteString(text)
		if in.String()[out.Len():] != p.Text() {
			t.Fatal("what is in it is not what was not read yet")
		}
		if in.Len() > 1<<16 {
			break
		}
	}
	if !strings.HasPrefix(in.String(), out.String()) || out.Len() < 1000 {
		t.Error(in.Len(), out.Len())
	}
}

// TestP4Fork: a Fork has the same; what becomes of the one changes nothing of the other one.
func TestP4Fork(t *testing.T) {
	for turn := range 24 {
		x := pairOf(t, 2, 3)
		for range turn {
			x.write("-")
			x.read(1)
		}
		x.write("abcdefghijklmnopqrs")
		for _, change := range []func(*pair){
			func(x *pair) { x.write("1") },
			func(x *pair) { x.write("123456789") },
			func(x *pair) { x.read(3) },
			func(x *pair) { x.read(99) },
			func(x *pair) { x.open(true) },
			func(x *pair) { x.open(false) },
			func(x *pair) { x.close(true) },
			func(x *pair) { x.close(false) },
			func(x *pair) { x.read(1); x.write("XYZ") },
		} {
			y := x.forked()
			if y.p == nil || y.p == x.p {
				t.Fatal("no other one")
			}
			y.told("the fork")
			change(y)
			x.told("the one it came of")
			y = x.forked()
			z := x.forked()
			change(z)
			y.told("beside another fork")
			w := x.forked()
			change(w)
			w.read(99)
			x.told("the one it came of")
			x = y
		}
	}
}

// TestP4ForksPlay: forks of forks go on their own ways.
func TestP4ForksPlay(t *testing.T) {
	for seed := range uint32(10) {
		chance := chances(seed + 500)
		all := []*pair{pairOf(t, 1, 1)}
		for range 600 {
			x := all[chance(len(all))]
			x.step(chance)
			if len(all) < 5 && chance(40) == 0 {
				all = append(all, x.forked())
			}
		}
		for _, x := range all {
			x.told("behind all")
		}
	}
}

func TestP1Nil(t *testing.T) {
	var p *Pipe
	for _, write := range []bool{false, true} {
		if p.Open(write) != api.ErrNil || p.Close(write) != api.ErrNil || p.Count(write) != 0 {
			t.Error(write)
		}
	}
	for _, data := range []string{"", "x", letters} {
		wrote(t, p, data, 0, api.ErrNil)
	}
	for _, many := range []int{-1, 0, 1, math.MinInt, math.MaxInt} {
		came(t, p, many, "", api.ErrNil)
	}
	if p.Text() != "" || p.Fork() != nil {
		t.Error("nil has something")
	}
}

// TestP3Texts: what was answered stays as it was, whatever is written behind it.
func TestP3Texts(t *testing.T) {
	p := opened(t, "abcdefghijklmnopqrstuvwx")
	text := p.Text()
	part, _ := p.Read(10)
	for range 9 {
		wrote(t, p, "123456789", 9, api.OK)
		p.Read(9)
	}
	if text != "abcdefghijklmnopqrstuvwx" || part != "abcdefghij" {
		t.Error(text, part)
	}
}

// TestE7Full: never more than MaxPipe bytes, and never open more than 100 times.
func TestE7Full(t *testing.T) {
	p := New()
	for range 300 {
		p.Open(false)
		p.Open(true)
		p.Write("x")
		p.Write(letters)
		if len(p.Text()) > 24 || p.Count(false) > 100 || p.Count(true) > 100 {
			t.Fatal(len(p.Text()), p.Count(false), p.Count(true))
		}
	}
	if len(p.Text()) != 24 || p.Count(false) != 100 || p.Count(true) != 100 {
		t.Error(len(p.Text()), p.Count(false), p.Count(true))
	}
}
