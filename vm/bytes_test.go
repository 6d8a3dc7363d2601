package vm

import (
	"math"
	"testing"

	"embrasure/api"
)

// peeked holds one byte against what is asked for.
func peeked(t *testing.T, v *Vm, pid, addr int, want byte) {
	t.Helper()
	if b, e := v.Peek(pid, addr); b != want || e != api.OK {
		t.Error("Peek", pid, addr, b, e, "not", want)
	}
}

// lies holds where a page lies against what is asked for.
func lies(t *testing.T, v *Vm, pid, page, want int) {
	t.Helper()
	if frame, ok := v.Frame(pid, page); frame != want || !ok {
		t.Error("Frame", pid, page, frame, ok, "not", want)
	}
}

// TestP19_2Addresses: each address of pages that are mapped, and none beside them.
func TestP19_2Addresses(t *testing.T) {
	p := pairOf(t, 16)
	p.begin(5)
	for page := range 16 {
		p.mapIt(5, page)
	}
	for addr := range 512 {
		peeked(t, p.v, 5, addr, 0)
		b := byte(1 + addr%255)
		if e := p.v.Poke(5, addr, b); e != api.OK {
			t.Fatal(addr, e)
		}
		p.want.poke(5, addr, b)
		peeked(t, p.v, 5, addr, b)
	}
	p.told("all")
	for _, addr := range noAddresses() {
		if e := p.v.Poke(5, addr, 1); e != api.ErrRange {
			t.Error(addr, e)
		}
		if b, e := p.v.Peek(5, addr); b != 0 || e != api.ErrRange {
			t.Error(addr, b, e)
		}
	}
	p.told("refused")
}

// TestP19_2Fault: of pages that are not mapped; addresses that are none ahead of it; the last byte of a page, and the first one of the next.
func TestP19_2Fault(t *testing.T) {
	p := pairOf(t, 2)
	p.begin(0)
	p.begin(1)
	p.mapIt(0, 0, 2)
	for _, addr := range []int{0, 31, 64, 95} {
		if e := p.v.Poke(0, addr, 5); e != api.OK {
			t.Error(addr, e)
		}
		p.want.poke(0, addr, 5)
	}
	for _, addr := range []int{32, 63, 96, 127, 511} {
		for pid := range 2 {
			if e := p.v.Poke(pid, addr, 5); e != api.ErrFault {
				t.Error(pid, addr, e)
			}
			if b, e := p.v.Peek(pid, addr); b != 0 || e != api.ErrFault {
				t.Error(pid, addr, b, e)
			}
		}
	}
	for _, addr := range noAddresses() {
		if e := p.v.Poke(1, addr, 5); e != api.ErrRange {
			t.Error(addr, e)
		}
		if b, e := p.v.Peek(1, addr); b != 0 || e != api.ErrRange {
			t.Error(addr, b, e)
		}
	}
	p.told("refused")
}

// TestP19_2NeverWritten: a page that was never written is 0 and needs no frame; with the first byte, also 0, it needs one.
func TestP19_2NeverWritten(t *testing.T) {
	p := pairOf(t, 2)
	p.begin(0)
	p.mapIt(0, 0, 1, 2)
	peeked(t, p.v, 0, 95, 0)
	if p.v.Left() != 2 {
		t.Error(p.v.Left())
	}
	if e := p.v.Poke(0, 32, 0); e != api.OK || p.v.Left() != 1 || p.v.Refs(0) != 1 {
		t.Error(e, p.v.Left())
	}
	p.want.poke(0, 32, 0)
	p.told("a byte 0")
	if e := p.v.Poke(0, 31, 4); e != api.OK || p.v.Left() != 0 || p.v.Copies() != 0 {
		t.Error(e, p.v.Left(), p.v.Copies())
	}
	p.want.poke(0, 31, 4)
	p.told("the last frame")
	lies(t, p.v, 0, 1, 0)
	lies(t, p.v, 0, 0, 1)
	for _, b := range []byte{0, 1} {
		if e := p.v.Poke(0, 64, b); e != api.ErrSpace {
			t.Error(b, e)
		}
	}
	p.told("no frame")
	peeked(t, p.v, 0, 64, 0)
}

// TestP19_2Shared: a page that lies with others in a frame is copied when it is written, also with the byte that it has; the others stay there, and the last one of them is not copied.
func TestP19_2Shared(t *testing.T) {
	p := pairOf(t, 4)
	p.begin(0)
	p.mapIt(0, 1)
	p.fill(0, 32, bytesOf(0, 32)...)
	p.fork(0, 1)
	p.fork(1, 2)
	for many, pid := range []int{1, 0} {
		if e := p.v.Poke(pid, 40, 9); e != api.OK {
			t.Fatal(pid, e)
		}
		p.want.poke(pid, 40, 9)
		p.told("copied")
		lies(t, p.v, pid, 1, many+1)
		if p.v.Copies() != many+1 || p.v.Refs(0) != 2-many || p.v.Left() != 2-many {
			t.Fatal(pid, p.v.Copies(), p.v.Refs(0), p.v.Left())
		}
		peeked(t, p.v, pid, 39, 8)
		peeked(t, p.v, pid, 63, 32)
	}
	for _, pid := range []int{2, 1, 0, 2} {
		if e := p.v.Poke(pid, 40, byte(100+pid)); e != api.OK {
			t.Fatal(pid, e)
		}
		p.want.poke(pid, 40, byte(100+pid))
		p.told("its own")
	}
	if p.v.Copies() != 2 || p.v.Left() != 1 {
		t.Error(p.v.Copies(), p.v.Left())
	}
	for pid := range 3 {
		peeked(t, p.v, pid, 40, byte(100+pid))
	}
}

// TestP19_2SharedNeverWritten: a page that lies in no frame is forked so; whoever writes it has a frame that is 0, and nothing is copied.
func TestP19_2SharedNeverWritten(t *testing.T) {
	p := pairOf(t, 3)
	p.begin(0)
	p.mapIt(0, 0)
	p.fork(0, 1)
	p.poke(1, 3, 7)
	p.poke(0, 4, 8)
	p.told("written by both")
	lies(t, p.v, 1, 0, 0)
	lies(t, p.v, 0, 0, 1)
	peeked(t, p.v, 0, 3, 0)
	peeked(t, p.v, 1, 4, 0)
	if p.v.Copies() != 0 || p.v.Left() != 1 {
		t.Error(p.v.Copies(), p.v.Left())
	}
}

// TestP19_2Space: with no frame free what lies alone is written, what is shared or in no frame is not, and all is as it was; behind an End it can be.
func TestP19_2Space(t *testing.T) {
	p := pairOf(t, 2)
	p.begin(0)
	p.mapIt(0, 0, 1, 2)
	p.poke(0, 0, 1)
	p.fork(0, 1)
	p.poke(0, 33, 2)
	if p.v.Left() != 0 {
		t.Fatal(p.v.Left())
	}
	for _, c := range []struct{ pid, addr int }{{0, 0}, {0, 31}, {1, 0}, {1, 5}, {0, 64}, {1, 64}, {1, 33}} {
		if e := p.v.Poke(c.pid, c.addr, 77); e != api.ErrSpace {
			t.Error(c, e)
		}
		if e := p.v.Fill(c.pid, c.addr, 77); e != api.ErrSpace {
			t.Error(c, e)
		}
		p.told("refused")
	}
	if e := p.v.Poke(0, 63, 3); e != api.OK {
		t.Error(e)
	}
	p.want.poke(0, 63, 3)
	p.told("its own")
	p.end(1)
	if e := p.v.Poke(0, 5, 4); e != api.OK || p.v.Copies() != 0 {
		t.Error(e, p.v.Copies())
	}
	p.want.poke(0, 5, 4)
	p.told("alone again")
	lies(t, p.v, 0, 0, 0)
	if e := p.v.Poke(0, 64, 1); e != api.ErrSpace {
		t.Error(e)
	}
}

// TestP19_2FaultBeforeSpace: with no frame free a page that is not mapped is a fault, and an address that is none is out of range.
func TestP19_2FaultBeforeSpace(t *testing.T) {
	p := pairOf(t, 1)
	p.begin(0)
	p.mapIt(0, 0, 1)
	p.poke(0, 0, 1)
	if p.v.Poke(0, 32, 1) != api.ErrSpace || p.v.Poke(0, 64, 1) != api.ErrFault || p.v.Poke(0, 512, 1) != api.ErrRange || p.v.Poke(1, 512, 1) != api.ErrNoent {
		t.Error("Poke")
	}
	if p.v.Fill(0, 60, bytesOf(0, 5)...) != api.ErrFault || p.v.Fill(0, 60, bytesOf(0, 4)...) != api.ErrSpace || p.v.Fill(0, 60, bytesOf(0, 453)...) != api.ErrRange {
		t.Error("Fill")
	}
	p.told("refused")
}

// TestP19_2NextFrame: the least one in which no page lies, behind End, Unmap and copies in any order.
func TestP19_2NextFrame(t *testing.T) {
	p := pairOf(t, 6)
	p.begin(0)
	p.mapIt(0, 0, 1, 2, 3)
	for _, page := range []int{3, 0, 2, 1} {
		p.poke(0, page*32, byte(10+page))
	}
	for page, frame := range []int{1, 3, 2, 0} {
		lies(t, p.v, 0, page, frame)
	}
	p.unmap(0, 2)
	p.unmap(0, 0)
	p.begin(1)
	p.mapIt(1, 0, 1, 2)
	p.poke(1, 64, 1)
	p.poke(1, 0, 2)
	p.poke(1, 32, 3)
	lies(t, p.v, 1, 2, 1)
	lies(t, p.v, 1, 0, 2)
	lies(t, p.v, 1, 1, 4)
	p.told("behind Unmap")
	p.fork(0, 2)
	p.end(1)
	p.poke(2, 33, 9)
	lies(t, p.v, 2, 1, 1)
	p.end(0)
	p.mapIt(2, 7)
	p.poke(2, 255, 9)
	lies(t, p.v, 2, 7, 2)
	p.told("behind End")
	if p.v.Refs(0) != 1 || p.v.Refs(3) != 0 || p.v.Copies() != 1 {
		t.Error(p.v.Refs(0), p.v.Refs(3), p.v.Copies())
	}
	p.mapIt(2, 8)
	p.poke(2, 256, 1)
	lies(t, p.v, 2, 8, 3)
	p.told("all")
}

// TestE4NothingIsLeft: a frame that was another's is 0 but for what is written, behind End and behind Unmap; and while it is free nothing is in it.
func TestE4NothingIsLeft(t *testing.T) {
	for _, end := range []bool{true, false} {
		p := pairOf(t, 1)
		p.begin(0)
		p.mapIt(0, 0)
		p.fill(0, 0, bytesOf(0, 32)...)
		p.fork(0, 1)
		for pid := range 2 {
			if end {
				p.end(pid)
			} else {
				p.unmap(pid, 0)
			}
		}
		if !p.v.frames.memory.Clean(0) {
			t.Error(end, "what was there is kept")
		}
		p.begin(3)
		p.mapIt(3, 9)
		p.poke(3, 290, 1)
		lies(t, p.v, 3, 9, 0)
		for addr := 288; addr < 320; addr++ {
			want := byte(0)
			if addr == 290 {
				want = 1
			}
			peeked(t, p.v, 3, addr, want)
		}
		p.told("the next one")
	}
}

// TestP19_5NoCopy: what is written by one alone is not copied, however often, with others that are forked and end, or have pages of their own.
func TestP19_5NoCopy(t *testing.T) {
	p := pairOf(t, 8)
	p.begin(0)
	p.begin(1)
	p.mapIt(0, 0, 1)
	p.mapIt(1, 0, 1)
	for n := range 100 {
		p.poke(0, n%64, byte(n))
		p.poke(1, 63-n%64, byte(n))
		p.fill(0, n%60, 1, 2, 3, 4)
	}
	for n := range 20 {
		p.fork(0, 2)
		p.fork(2, 3)
		p.end(2)
		p.unmap(3, 0)
		p.unmap(3, 1)
		p.poke(0, n, byte(n))
		p.end(3)
		p.poke(0, 40+n, byte(n))
	}
	p.told("many")
	if p.v.Copies() != 0 || p.v.Left() != 4 {
		t.Error(p.v.Copies(), p.v.Left())
	}
}

// TestP19_2FillNothing: without bytes only the address is asked for, not whether it is mapped.
func TestP19_2FillNothing(t *testing.T) {
	p := pairOf(t, 1)
	p.begin(0)
	p.mapIt(0, 0)
	for _, addr := range []int{0, 31, 32, 100, 511} {
		if p.v.Fill(0, addr) != api.OK || p.v.Fill(0, addr, []byte{}...) != api.OK {
			t.Error(addr)
		}
	}
	for _, addr := range noAddresses() {
		if e := p.v.Fill(0, addr); e != api.ErrRange {
			t.Error(addr, e)
		}
	}
	p.told("nothing")
	if p.v.Left() != 1 {
		t.Error(p.v.Left())
	}
}

// TestP19_2FillRange: up to the last address, and not one byte further.
func TestP19_2FillRange(t *testing.T) {
	p := pairOf(t, 16)
	p.begin(0)
	for page := range 16 {
		p.mapIt(0, page)
	}
	for _, addr := range []int{0, 1, 31, 32, 33, 480, 510, 511} {
		for _, many := range []int{513 - addr, 514 - addr, 1000} {
			if e := p.v.Fill(0, addr, bytesOf(addr, many)...); e != api.ErrRange {
				t.Error(addr, many, e)
			}
		}
		p.told("refused")
	}
	for _, addr := range []int{511, 510, 480, 33, 32, 31, 1, 0} {
		if e := p.v.Fill(0, addr, bytesOf(addr*7, 512-addr)...); e != api.OK {
			t.Error(addr, e)
		}
		p.want.fill(0, addr, bytesOf(addr*7, 512-addr)...)
		p.told("to the end")
	}
	for _, addr := range append(noAddresses(), math.MaxInt-1) {
		if p.v.Fill(0, addr, 1) != api.ErrRange || p.v.Fill(0, addr, bytesOf(0, 600)...) != api.ErrRange {
			t.Error(addr)
		}
	}
	p.told("behind the end")
}

// TestP19_2FillOver: over the end of a page and over whole pages, each in the next frame, from the first one on.
func TestP19_2FillOver(t *testing.T) {
	p := pairOf(t, 5)
	p.begin(0)
	p.mapIt(0, 4, 3, 2, 1)
	if e := p.v.Fill(0, 63, 8, 9); e != api.OK {
		t.Fatal(e)
	}
	p.want.fill(0, 63, 8, 9)
	p.told("two bytes")
	lies(t, p.v, 0, 1, 0)
	lies(t, p.v, 0, 2, 1)
	peeked(t, p.v, 0, 63, 8)
	peeked(t, p.v, 0, 64, 9)
	peeked(t, p.v, 0, 62, 0)
	peeked(t, p.v, 0, 65, 0)
	if e := p.v.Fill(0, 95, bytesOf(0, 34)...); e != api.OK {
		t.Fatal(e)
	}
	p.want.fill(0, 95, bytesOf(0, 34)...)
	p.told("34 bytes")
	lies(t, p.v, 0, 3, 2)
	lies(t, p.v, 0, 4, 3)
	peeked(t, p.v, 0, 95, 1)
	peeked(t, p.v, 0, 128, 34)
	if p.v.Left() != 1 || p.v.Copies() != 0 {
		t.Error(p.v.Left(), p.v.Copies())
	}
	if e := p.v.Fill(0, 96, bytesOf(50, 32)...); e != api.OK || p.v.Left() != 1 {
		t.Error(e, p.v.Left())
	}
	p.want.fill(0, 96, bytesOf(50, 32)...)
	p.told("a whole page")
}

// TestP19_2FillFault: with one page that is not mapped, at first, between and at last, nothing is written.
func TestP19_2FillFault(t *testing.T) {
	for hole := 2; hole <= 5; hole++ {
		p := pairOf(t, 8)
		p.begin(0)
		for page := 2; page <= 5; page++ {
			if page != hole {
				p.mapIt(0, page)
			}
		}
		p.poke(0, 120, 5)
		p.poke(0, 80, 5)
		if e := p.v.Fill(0, 95, bytesOf(0, 66)...); e != api.ErrFault {
			t.Error(hole, e)
		}
		p.told("a hole")
		if hole < 5 {
			continue
		}
		if e := p.v.Fill(0, 95, bytesOf(0, 65)...); e != api.OK {
			t.Error(e)
		}
		p.want.fill(0, 95, bytesOf(0, 65)...)
		p.told("up to the hole")
	}
}

// TestP19_2FillSpace: pages that need a frame (in none, or shared) and pages that need none; with as many frames as they need, and with one less, and then all is as it was.
func TestP19_2FillSpace(t *testing.T) {
	for _, frames := range []int{5, 6, 7, 8} {
		p := pairOf(t, frames)
		p.begin(0)
		p.mapIt(0, 0, 1, 2, 3, 4)
		p.fill(0, 0, bytesOf(0, 64)...)
		p.fork(0, 1)
		p.poke(0, 70, 7)
		p.poke(1, 35, 8)
		p.poke(0, 97, 9)
		// Of process 0 page 0 is shared, 1 to 3 are its own, 4 is in none; of process 1 page 0 is shared, 1 its own, 2 to 4 are in none.
		if p.v.Left() != frames-5 || p.v.Copies() != 1 {
			t.Fatal(p.v.Left(), p.v.Copies())
		}
		e := p.v.Fill(0, 31, bytesOf(9, 98)...)
		if want := []api.Errno{api.ErrSpace, api.ErrSpace, api.OK, api.OK}[frames-5]; e != want {
			t.Error(frames, e)
		}
		p.want.fill(0, 31, bytesOf(9, 98)...)
		p.told("all pages")
		if frames == 7 {
			lies(t, p.v, 0, 0, 5)
			lies(t, p.v, 0, 4, 6)
			lies(t, p.v, 1, 0, 0)
			peeked(t, p.v, 1, 31, 32)
		}
		p.fill(0, 32, bytesOf(3, 96)...)
		p.told("its own ones alone")
	}
}

// TestP19_2FillOwn: with no frame free what lies alone is written over several pages.
func TestP19_2FillOwn(t *testing.T) {
	p := pairOf(t, 3)
	p.begin(0)
	p.mapIt(0, 0, 1, 2, 3)
	p.fill(0, 0, bytesOf(0, 96)...)
	if e := p.v.Fill(0, 5, bytesOf(7, 91)...); e != api.OK {
		t.Error(e)
	}
	p.want.fill(0, 5, bytesOf(7, 91)...)
	p.told("its own")
	if e := p.v.Fill(0, 5, bytesOf(9, 92)...); e != api.ErrSpace {
		t.Error(e)
	}
	p.told("one byte further")
}

// TestP19_2FillShared: a copy a page that is shared, however many of its bytes are written.
func TestP19_2FillShared(t *testing.T) {
	p := pairOf(t, 9)
	p.begin(0)
	p.mapIt(0, 0, 1, 2)
	p.fill(0, 0, bytesOf(0, 96)...)
	p.fork(0, 1)
	p.fork(0, 2)
	if e := p.v.Fill(1, 30, bytesOf(90, 36)...); e != api.OK || p.v.Copies() != 3 || p.v.Left() != 3 {
		t.Error(e, p.v.Copies(), p.v.Left())
	}
	p.want.fill(1, 30, bytesOf(90, 36)...)
	p.told("copied")
	for page := range 3 {
		lies(t, p.v, 1, page, 3+page)
		lies(t, p.v, 0, page, page)
		lies(t, p.v, 2, page, page)
	}
	peeked(t, p.v, 1, 29, 30)
	peeked(t, p.v, 1, 66, 67)
	peeked(t, p.v, 0, 30, 31)
}
