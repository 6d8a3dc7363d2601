package dev

import (
	"bytes"
	"math"
	"slices"
	"testing"

	"embrasure/api"
	"embrasure/mem"
)

// outside are numbers that nothing of size ones has.
func outside(size int) []int {
	return []int{math.MinInt, -65536, -size, -1, size, size + 1, 64, 65, 256, 65536, math.MaxInt32, math.MaxInt - 1, math.MaxInt}
}

// marked are a sector's bytes, or a frame's, that are like no other's.
func marked(n int) []byte {
	b := make([]byte, 32)
	for k := range b {
		b[k] = byte(1 + (n*37+k*11)%255)
	}
	return b
}

// filled is a disk of size sectors, each with bytes of its own.
func filled(t *testing.T, size int) *Disk {
	t.Helper()
	d := New(size)
	for i := range size {
		if e := d.Set(i, marked(i)); e != api.OK {
			t.Fatal(i, e)
		}
	}
	return d
}

// memory is one of size frames, each with bytes that no sector of filled has.
func memory(t *testing.T, size int) *mem.Memory {
	t.Helper()
	m := mem.New(size)
	for f := range size {
		if e := m.Fill(f, 0, marked(100+f)...); e != api.OK {
			t.Fatal(f, e)
		}
	}
	return m
}

// all are a disk's bytes, one sector behind the other.
func all(t *testing.T, d *Disk) []byte {
	t.Helper()
	var l []byte
	for i := range d.Size() {
		b, e := d.Sector(i)
		if e != api.OK || len(b) != 32 {
			t.Fatal(i, b, e)
		}
		l = append(l, b...)
	}
	return l
}

// frames are a memory's bytes, one frame behind the other.
func frames(t *testing.T, m *mem.Memory) []byte {
	t.Helper()
	var l []byte
	for f := range m.Size() {
		b, e := m.Frame(f)
		if e != api.OK {
			t.Fatal(f, e)
		}
		l = append(l, b...)
	}
	return l
}

// same holds a disk's bytes, and what waits, against what is asked for.
func same(t *testing.T, what string, d *Disk, want []byte, waiting []api.Request) {
	t.Helper()
	if got := all(t, d); !bytes.Equal(got, want) {
		t.Fatalf("%s: %v, not %v", what, got, want)
	}
	if got := d.Waiting(); !slices.Equal(got, waiting) {
		t.Fatalf("%s: %v waits, not %v", what, got, waiting)
	}
}

// ask takes requests in that are right, and answers them with their numbers.
func ask(t *testing.T, d *Disk, l ...api.Request) []api.Request {
	t.Helper()
	out := slices.Clone(l)
	for k, r := range l {
		id, e := d.Ask(r)
		if e != api.OK {
			t.Fatal(r, e)
		}
		out[k].Id = id
	}
	return out
}

// several are requests of several frames and owners, as many as may wait, for a disk of four sectors.
func several() []api.Request {
	return []api.Request{
		{Sector: 0, Frame: 1, Owner: 1},
		{Sector: 1, Frame: 2, Owner: 2, Write: true},
		{Sector: 3, Frame: 1, Owner: 2, Write: true},
		{Sector: 0, Frame: 0, Owner: 0},
		{Sector: 2, Frame: 63, Owner: 255},
		{Sector: 3, Frame: 1, Owner: 1},
		{Sector: 0, Frame: 0, Owner: 1, Write: true},
		{Sector: 1, Frame: 3, Owner: 9, Write: true},
	}
}

func TestP8_1New(t *testing.T) {
	for n := 1; n <= 64; n++ {
		d := New(n)
		if d == nil || d.Size() != n {
			t.Fatal(n, d)
		}
		same(t, "new", d, make([]byte, 32*n), nil)
	}
}

func TestE7NoDiskBeyondTheLimit(t *testing.T) {
	for _, n := range []int{math.MinInt, -65, -64, -1, 0, 65, 66, 128, 65536, math.MaxInt32, math.MaxInt} {
		if d := New(n); d != nil {
			t.Error(n, d.Size())
		}
	}
}

// TestP8_1NewOnesAreApart: neither bytes nor numbers of one are in the next one.
func TestP8_1NewOnesAreApart(t *testing.T) {
	a := filled(t, 4)
	l := ask(t, a, several()...)
	b := New(4)
	same(t, "the next one", b, make([]byte, 128), nil)
	if id, e := b.Ask(api.Request{}); id != 1 || e != api.OK {
		t.Error(id, e)
	}
	same(t, "the first one", a, all(t, filled(t, 4)), l)
}

func TestP8_1Example(t *testing.T) {
	d, m := New(6), memory(t, 4)
	if id, e := d.Ask(api.Request{Write: true, Sector: 5, Frame: 3}); id != 1 || e != api.OK {
		t.Error(id, e)
	}
	if r, e := d.Deliver(0, m); r != (api.Request{Id: 1, Write: true, Sector: 5, Frame: 3}) || e != api.OK {
		t.Error(r, e)
	}
	if b, e := d.Sector(5); !bytes.Equal(b, marked(103)) || e != api.OK {
		t.Error(b, e)
	}
}

// TestP8_1Ask: numbers from 1 on, whatever Id is handed in, each behind all others; nothing is moved yet.
func TestP8_1Ask(t *testing.T) {
	d := filled(t, 4)
	want := all(t, d)
	var waiting []api.Request
	for k, r := range several() {
		r.Id = uint32(77 - 11*k)
		id, e := d.Ask(r)
		if id != uint32(k+1) || e != api.OK {
			t.Fatal(k, id, e)
		}
		r.Id = id
		waiting = append(waiting, r)
		same(t, "asked", d, want, waiting)
	}
	if len(waiting) != api.MaxQueue {
		t.Error(len(waiting))
	}
}

// TestP8_1AskEdges: every sector that there is, and every frame that may be.
func TestP8_1AskEdges(t *testing.T) {
	for _, size := range []int{1, 2, 63, 64} {
		for sector := range size {
			for frame := range 64 {
				d := New(size)
				if id, e := d.Ask(api.Request{Sector: sector, Frame: frame}); id != 1 || e != api.OK {
					t.Fatal(size, sector, frame, id, e)
				}
			}
		}
	}
}

// TestP8_1AskWrong: a sector and a frame that are none are refused, with room and without; of a full queue what is right has ErrSpace; nothing changes, and no number is lost.
func TestP8_1AskWrong(t *testing.T) {
	for many := range 9 {
		d := filled(t, 4)
		want := all(t, d)
		waiting := ask(t, d, several()[:many]...)
		var wrong []api.Request
		for _, n := range outside(4) {
			wrong = append(wrong, api.Request{Sector: n, Frame: 1}, api.Request{Sector: n, Frame: -1})
		}
		for _, n := range outside(64) {
			wrong = append(wrong, api.Request{Sector: 1, Frame: n}, api.Request{Sector: 4, Frame: n, Write: true})
		}
		for _, r := range wrong {
			if id, e := d.Ask(r); id != 0 || e != api.ErrRange {
				t.Fatal(many, r, id, e)
			}
		}
		same(t, "wrong", d, want, waiting)
		id, e := d.Ask(api.Request{Sector: 3, Frame: 63})
		if many < 8 && (id != uint32(many+1) || e != api.OK) || many == 8 && (id != 0 || e != api.ErrSpace) {
			t.Fatal(many, id, e)
		}
		if many == 8 {
			same(t, "a full queue", d, want, waiting)
		}
	}
}

// TestP8_1DeliverAny: each of those that wait may be delivered; the others wait on, in order.
func TestP8_1DeliverAny(t *testing.T) {
	for many := 1; many <= 8; many++ {
		for i := range many {
			d, m := filled(t, 4), memory(t, 64)
			waiting := ask(t, d, several()[:many]...)
			sectors, bytesOf := all(t, d), frames(t, m)
			r, e := d.Deliver(i, m)
			if r != waiting[i] || e != api.OK {
				t.Fatal(many, i, r, e)
			}
			sector, frame := sectors[32*r.Sector:32*r.Sector+32], bytesOf[32*r.Frame:32*r.Frame+32]
			if r.Write {
				copy(sector, frame)
			} else {
				copy(frame, sector)
			}
			same(t, "delivered", d, sectors, slices.Delete(waiting, i, i+1))
			if !bytes.Equal(frames(t, m), bytesOf) {
				t.Fatal(many, i, "the memory is otherwise")
			}
		}
	}
}

// TestP8_1DeliverOfNone: what does not wait is not delivered, and nothing changes.
func TestP8_1DeliverOfNone(t *testing.T) {
	for many := range 9 {
		d, m := filled(t, 4), memory(t, 4)
		waiting := ask(t, d, several()[:many]...)
		sectors, bytesOf := all(t, d), frames(t, m)
		for _, i := range outside(many) {
			if i >= 0 && i < many {
				continue
			}
			if r, e := d.Deliver(i, m); r != (api.Request{}) || e != api.ErrRange {
				t.Error(many, i, r, e)
			}
		}
		for i := -2; i < 12; i++ {
			if r, e := d.Deliver(i, nil); r != (api.Request{}) || e != api.ErrNil {
				t.Error(many, i, r, e)
			}
		}
		same(t, "of none", d, sectors, waiting)
		if !bytes.Equal(frames(t, m), bytesOf) {
			t.Error(many, "the memory is otherwise")
		}
	}
}

// TestP8_2DeliverWithoutFrame: of a memory that has not the frame the request is answered, and waits no more; no byte is moved.
func TestP8_2DeliverWithoutFrame(t *testing.T) {
	for _, size := range []int{1, 2, 63} {
		for _, frame := range []int{size, 63} {
			for _, write := range []bool{false, true} {
				d, m := filled(t, 4), memory(t, size)
				waiting := ask(t, d, api.Request{Sector: 1, Frame: 0, Owner: 3}, api.Request{Sector: 2, Frame: frame, Owner: 7, Write: write}, api.Request{Sector: 3, Frame: 0})
				sectors, bytesOf := all(t, d), frames(t, m)
				if r, e := d.Deliver(1, m); r != (api.Request{Id: 2, Sector: 2, Frame: frame, Owner: 7, Write: write}) || e != api.ErrFault {
					t.Fatal(size, frame, write, r, e)
				}
				same(t, "no frame", d, sectors, slices.Delete(waiting, 1, 2))
				if !bytes.Equal(frames(t, m), bytesOf) {
					t.Error(size, frame, write, "the memory is otherwise")
				}
			}
		}
	}
	// The last frame that a memory has is one.
	d, m := filled(t, 4), memory(t, 5)
	ask(t, d, api.Request{Sector: 2, Frame: 4}, api.Request{Sector: 3, Frame: 4, Write: true})
	for range 2 {
		if r, e := d.Deliver(0, m); e != api.OK {
			t.Error(r, e)
		}
	}
	if b, _ := d.Sector(3); !bytes.Equal(b, marked(2)) {
		t.Error(b)
	}
}

// TestP8_2CancelDrop: of none, of one, of several; the numbers as they were taken in, and the others wait on.
func TestP8_2CancelDrop(t *testing.T) {
	for many := range 9 {
		for n := -1; n <= 256; n++ {
			d := filled(t, 4)
			sectors := all(t, d)
			var numbers []uint32
			var stay []api.Request
			for _, r := range ask(t, d, several()[:many]...) {
				if r.Frame == n {
					numbers = append(numbers, r.Id)
				} else {
					stay = append(stay, r)
				}
			}
			if l := d.Cancel(n); !slices.Equal(l, numbers) {
				t.Fatal("Cancel", many, n, l)
			}
			same(t, "cancelled", d, sectors, stay)
			if l := d.Cancel(n); len(l) != 0 {
				t.Fatal("Cancel, twice", many, n, l)
			}
			same(t, "cancelled twice", d, sectors, stay)
		}
		for n := range 256 {
			d := filled(t, 4)
			sectors := all(t, d)
			var numbers []uint32
			var stay []api.Request
			for _, r := range ask(t, d, several()[:many]...) {
				if int(r.Owner) == n {
					numbers = append(numbers, r.Id)
				} else {
					stay = append(stay, r)
				}
			}
			if l := d.Drop(uint8(n)); !slices.Equal(l, numbers) {
				t.Fatal("Drop", many, n, l)
			}
			same(t, "dropped", d, sectors, stay)
			if l := d.Drop(uint8(n)); len(l) != 0 {
				t.Fatal("Drop, twice", many, n, l)
			}
		}
	}
}

func TestP8_2CancelDropKnown(t *testing.T) {
	d := New(4)
	ask(t, d, several()...)
	for _, n := range append(outside(64), 4, 5) {
		if l := d.Cancel(n); len(l) != 0 {
			t.Error(n, l)
		}
	}
	if l := d.Cancel(1); !slices.Equal(l, []uint32{1, 3, 6}) {
		t.Error(l)
	}
	if l := d.Drop(1); !slices.Equal(l, []uint32{7}) {
		t.Error(l)
	}
	if l := d.Drop(255); !slices.Equal(l, []uint32{5}) {
		t.Error(l)
	}
	if l := d.Drop(77); len(l) != 0 {
		t.Error(l)
	}
	if l := d.Cancel(0); !slices.Equal(l, []uint32{4}) {
		t.Error(l)
	}
	ask(t, d, api.Request{Frame: 9, Owner: 2}) // 9, behind 2 and 8
	if l := d.Drop(2); !slices.Equal(l, []uint32{2, 9}) {
		t.Error(l)
	}
	if l := d.Drop(9); !slices.Equal(l, []uint32{8}) || len(d.Waiting()) != 0 {
		t.Error(l, d.Waiting())
	}
}

func TestP8_2SectorSet(t *testing.T) {
	d := filled(t, 4)
	waiting := ask(t, d, several()[:3]...)
	for i := range 4 {
		if b, e := d.Sector(i); !bytes.Equal(b, marked(i)) || e != api.OK {
			t.Error(i, b, e)
		}
		want := all(t, d)
		copy(want[32*i:], marked(50+i))
		if e := d.Set(i, marked(50+i)); e != api.OK {
			t.Error(i, e)
		}
		same(t, "set", d, want, waiting)
	}
	want := all(t, d)
	for _, i := range outside(4) {
		if b, e := d.Sector(i); len(b) != 0 || e != api.ErrRange {
			t.Error(i, b, e)
		}
		for _, b := range [][]byte{nil, {}, {1}, make([]byte, 31), make([]byte, 32), make([]byte, 33)} {
			if e := d.Set(i, b); e != api.ErrRange {
				t.Error(i, len(b), e)
			}
		}
	}
	for i := range 4 {
		for n := range 100 {
			if e := d.Set(i, make([]byte, n)); (e == api.OK) != (n == 32) || e != api.OK && e != api.ErrForm {
				t.Error(i, n, e)
			}
			if n == 32 {
				d.Set(i, want[32*i:32*i+32])
			}
		}
		if d.Set(i, nil) != api.ErrForm || d.Set(i, make([]byte, 1<<16)) != api.ErrForm {
			t.Error(i)
		}
	}
	same(t, "refused", d, want, waiting)
}

// TestP8_3WrittenIsRead: every sector, by way of any frame, and Set's bytes in a frame.
func TestP8_3WrittenIsRead(t *testing.T) {
	d, m := New(64), memory(t, 64)
	for sector := range 64 {
		from, to := sector, (sector*7+5)%64
		ask(t, d, api.Request{Write: true, Sector: sector, Frame: from}, api.Request{Sector: sector, Frame: to})
		want, _ := m.Frame(from)
		for range 2 {
			if r, e := d.Deliver(0, m); e != api.OK {
				t.Fatal(r, e)
			}
		}
		if b, _ := m.Frame(to); !bytes.Equal(b, want) {
			t.Fatal(sector, b, want)
		}
		if b, _ := d.Sector(sector); !bytes.Equal(b, want) {
			t.Fatal(sector, b, want)
		}
		d.Set(sector, marked(200+sector))
		ask(t, d, api.Request{Sector: sector, Frame: 3})
		d.Deliver(0, m)
		if b, _ := m.Frame(3); !bytes.Equal(b, marked(200+sector)) {
			t.Fatal(sector, b)
		}
	}
}

// TestP8_1BytesAsTheyAreThen: what goes is what stands there at the delivery, not at the asking; behind it neither side follows the other.
func TestP8_1BytesAsTheyAreThen(t *testing.T) {
	d, m := New(2), mem.New(2)
	ask(t, d, api.Request{Write: true, Sector: 0, Frame: 0}, api.Request{Sector: 1, Frame: 1})
	m.Fill(0, 0, marked(1)...)
	d.Set(1, marked(2))
	d.Deliver(0, m)
	d.Deliver(0, m)
	m.Zero(0)
	m.SetByte(1, 0, 0)
	d.Set(1, marked(3))
	if b, _ := d.Sector(0); !bytes.Equal(b, marked(1)) {
		t.Error(b)
	}
	if b, _ := m.Frame(1); b[0] != 0 || !bytes.Equal(b[1:], marked(2)[1:]) {
		t.Error(b)
	}
}

// TestP8_4NumbersRise: behind what was delivered, faulted, cancelled, dropped and refused.
func TestP8_4NumbersRise(t *testing.T) {
	d, m := New(4), mem.New(2)
	last := uint32(0)
	next := func(r api.Request) {
		t.Helper()
		id, e := d.Ask(r)
		if id != last+1 || e != api.OK {
			t.Fatal(r, id, e)
		}
		last = id
	}
	for range 500 {
		next(api.Request{Frame: 1, Owner: 1})
		next(api.Request{Frame: 50, Owner: 2})
		next(api.Request{Frame: 1, Owner: 3})
		if _, e := d.Deliver(0, m); e != api.OK {
			t.Fatal(e)
		}
		next(api.Request{Frame: 0, Owner: 4})
		if _, e := d.Deliver(0, m); e != api.ErrFault {
			t.Fatal(e)
		}
		next(api.Request{Frame: 0, Owner: 5})
		if l := d.Cancel(0); !slices.Equal(l, []uint32{last - 1, last}) {
			t.Fatal(l)
		}
		next(api.Request{Frame: 0, Owner: 6})
		if l := d.Drop(6); !slices.Equal(l, []uint32{last}) {
			t.Fatal(l)
		}
		d.Ask(api.Request{Sector: 4})
		d.Ask(api.Request{Frame: 64})
		for len(d.Waiting()) < 8 {
			next(api.Request{})
		}
		if id, e := d.Ask(api.Request{}); id != 0 || e != api.ErrSpace {
			t.Fatal(id, e)
		}
		d.Cancel(0)
		d.Cancel(1)
		if len(d.Waiting()) != 0 {
			t.Fatal(d.Waiting())
		}
	}
}

// TestP8_5NothingTouchesTheFrame: behind Cancel neither the frame nor, from it, a sector is written.
func TestP8_5NothingTouchesTheFrame(t *testing.T) {
	d, m := filled(t, 4), memory(t, 64)
	ask(t, d, several()...)
	d.Cancel(1)
	for _, r := range d.Waiting() {
		if r.Frame == 1 {
			t.Error(r)
		}
	}
	for len(d.Waiting()) > 0 {
		if r, e := d.Deliver(len(d.Waiting())-1, m); r.Frame == 1 || e != api.OK {
			t.Error(r, e)
		}
	}
	if b, _ := m.Frame(1); !bytes.Equal(b, marked(101)) {
		t.Error(b)
	}
	if b, _ := d.Sector(3); !bytes.Equal(b, marked(3)) {
		t.Error(b)
	}
}

func TestP1NilDisk(t *testing.T) {
	var d *Disk
	for _, n := range append(outside(3), 0, 1, 31) {
		for _, m := range []*mem.Memory{nil, mem.New(1)} {
			if r, e := d.Deliver(n, m); r != (api.Request{}) || e != api.ErrNil {
				t.Error(n, r, e)
			}
		}
		if id, e := d.Ask(api.Request{Sector: n, Frame: n}); id != 0 || e != api.ErrNil {
			t.Error(n, id, e)
		}
		if b, e := d.Sector(n); len(b) != 0 || e != api.ErrNil {
			t.Error(n, b, e)
		}
		if d.Set(n, nil) != api.ErrNil || d.Set(n, make([]byte, 32)) != api.ErrNil {
			t.Error(n)
		}
		if len(d.Cancel(n)) != 0 || len(d.Drop(uint8(n))) != 0 {
			t.Error(n)
		}
	}
	if len(d.Waiting()) != 0 || d.Size() != 0 || d.Fork() != nil {
		t.Error(d.Waiting(), d.Size(), d.Fork())
	}
}

func TestP4Fork(t *testing.T) {
	changes := []func(*Disk){
		func(d *Disk) { d.Ask(api.Request{Sector: 3, Frame: 40, Owner: 40}) },
		func(d *Disk) { d.Deliver(0, mem.New(64)) },
		func(d *Disk) { d.Deliver(1, mem.New(64)) },
		func(d *Disk) { d.Deliver(1, mem.New(1)) },
		func(d *Disk) { d.Cancel(1) },
		func(d *Disk) { d.Drop(1) },
		func(d *Disk) { d.Set(1, make([]byte, 32)) },
		func(d *Disk) { d.Cancel(1); d.Ask(api.Request{Owner: 41}); d.Ask(api.Request{Owner: 42}) },
	}
	for many := range 9 {
		for _, change := range changes {
			d := filled(t, 4)
			waiting := ask(t, d, several()[:many]...)
			want := all(t, d)
			f := d.Fork()
			if f == nil || f == d || f.Size() != 4 {
				t.Fatal(many)
			}
			same(t, "the fork", f, want, waiting)
			change(f)
			same(t, "behind the fork's change", d, want, waiting)
			f = d.Fork()
			change(d)
			same(t, "the fork behind a change", f, want, waiting)
			g := f.Fork()
			change(g)
			same(t, "behind a fork's fork", f, want, waiting)
			same(t, "both were changed alike", g, all(t, d), d.Waiting())
		}
	}
}

// TestP4BothGrow: behind a Fork both give the same numbers, and what one takes in does not lie over what the other one does.
func TestP4BothGrow(t *testing.T) {
	for many := range 8 {
		d := New(4)
		waiting := ask(t, d, several()[:many]...)
		f := d.Fork()
		a, b := ask(t, d, api.Request{Sector: 1, Owner: 50}), ask(t, f, api.Request{Sector: 2, Owner: 60})
		if a[0].Id != uint32(many+1) || b[0].Id != a[0].Id {
			t.Error(a, b)
		}
		same(t, "the first one", d, make([]byte, 128), slices.Concat(waiting, a))
		same(t, "the fork", f, make([]byte, 128), slices.Concat(waiting, b))
	}
	// Numbers go on in a fork, even when nothing waits.
	d := New(1)
	ask(t, d, api.Request{}, api.Request{})
	d.Cancel(0)
	if id, _ := d.Fork().Ask(api.Request{}); id != 3 {
		t.Error(id)
	}
}

func TestP3BytesAreTheCallers(t *testing.T) {
	d := filled(t, 3)
	want := all(t, d)
	a, _ := d.Sector(1)
	b, _ := d.Sector(1)
	clear(a[:cap(a)])
	if !bytes.Equal(b, marked(1)) {
		t.Error("two answers share bytes")
	}
	clear(append(b, 1, 2, 3)[:cap(b)])
	same(t, "what was handed out", d, want, nil)
	c, _ := d.Sector(1)
	d.Set(1, make([]byte, 32))
	if !bytes.Equal(c, marked(1)) {
		t.Error("what was handed out changed")
	}
}

func TestP3SetLeavesBytes(t *testing.T) {
	room := slices.Concat(marked(5), marked(6))
	d, m := New(3), memory(t, 3)
	if d.Set(1, room[:32]) != api.OK || d.Set(1, room[:31]) != api.ErrForm || d.Set(1, room[:33]) != api.ErrForm {
		t.Error("Set")
	}
	ask(t, d, api.Request{Write: true, Sector: 1, Frame: 1})
	want := all(t, d)
	if !bytes.Equal(room, slices.Concat(marked(5), marked(6))) {
		t.Error(room)
	}
	clear(room)
	if !bytes.Equal(all(t, d), want) {
		t.Error("what was handed in is kept")
	}
	d.Deliver(0, m)
	d.Set(1, marked(7))
	if !bytes.Equal(room, make([]byte, 64)) {
		t.Error(room)
	}
}

func TestP3ListsAreTheCallers(t *testing.T) {
	for many := 1; many <= 8; many++ {
		d := New(4)
		want := ask(t, d, several()[:many]...)
		a, b := d.Waiting(), d.Waiting()
		clear(a)
		if !slices.Equal(b, want) {
			t.Error(many, "two answers share room")
		}
		clear(b[:cap(b)])
		same(t, "what was handed out", d, make([]byte, 128), want)
		a, b = append(d.Waiting(), api.Request{Owner: 98}), append(d.Waiting(), api.Request{Owner: 97})
		d.Deliver(0, mem.New(64))
		d.Ask(api.Request{Owner: 96})
		if !slices.Equal(a[:many], want) || !slices.Equal(b[:many], want) || a[many].Owner != 98 || b[many].Owner != 97 {
			t.Error(many, a, b)
		}
	}
	d := New(4)
	ask(t, d, several()...)
	l := d.Cancel(1)
	k := d.Drop(1)
	clear(l[:cap(l)])
	if !slices.Equal(k, []uint32{7}) {
		t.Error(k)
	}
	clear(k[:cap(k)])
	var left []uint32
	for _, r := range d.Waiting() {
		left = append(left, r.Id)
	}
	if !slices.Equal(left, []uint32{2, 4, 5, 8}) {
		t.Error(left)
	}
}

// TestP8AnyOrder holds a disk against plain lists, through calls made by a rule, wrong ones among them.
func TestP8AnyOrder(t *testing.T) {
	seed := uint32(11)
	chance := func(n int) int {
		seed = seed*1664525 + 1013904223
		return int(seed>>8) % n
	}
	const size, small = 5, 6
	d, m := filled(t, size), memory(t, small)
	sectors, bytesOf := all(t, d), frames(t, m)
	var waiting []api.Request
	last := uint32(0)
	except := func(gone func(api.Request) bool) (numbers []uint32) {
		var stay []api.Request
		for _, r := range waiting {
			if gone(r) {
				numbers = append(numbers, r.Id)
			} else {
				stay = append(stay, r)
			}
		}
		waiting = stay
		return numbers
	}
	deliver := func(i int) (api.Request, api.Errno) {
		if i < 0 || i >= len(waiting) {
			return api.Request{}, api.ErrRange
		}
		r := waiting[i]
		waiting = slices.Concat(waiting[:i], waiting[i+1:])
		if r.Frame >= small {
			return r, api.ErrFault
		}
		sector, frame := sectors[32*r.Sector:32*r.Sector+32], bytesOf[32*r.Frame:32*r.Frame+32]
		if r.Write {
			copy(sector, frame)
		} else {
			copy(frame, sector)
		}
		return r, api.OK
	}
	take := func(r api.Request) (uint32, api.Errno) {
		if r.Sector < 0 || r.Sector >= size || r.Frame < 0 || r.Frame > 63 {
			return 0, api.ErrRange
		}
		if len(waiting) == 8 {
			return 0, api.ErrSpace
		}
		last++
		r.Id = last
		waiting = append(waiting, r)
		return last, api.OK
	}
	for range 20000 {
		switch chance(16) {
		case 0:
			f := chance(small + 3)
			if got, want := d.Cancel(f), except(func(r api.Request) bool { return r.Frame == f }); !slices.Equal(got, want) {
				t.Fatal("Cancel", f, got, want)
			}
		case 1:
			o := uint8(chance(5))
			if got, want := d.Drop(o), except(func(r api.Request) bool { return r.Owner == o }); !slices.Equal(got, want) {
				t.Fatal("Drop", o, got, want)
			}
		case 2:
			i, b := chance(size), marked(chance(200))
			copy(sectors[32*i:], b)
			if e := d.Set(i, b); e != api.OK {
				t.Fatal("Set", i, e)
			}
		case 3:
			f, off, b := chance(small), chance(32), byte(chance(256))
			bytesOf[32*f+off] = b
			m.SetByte(f, off, b)
		case 4, 5, 6, 7:
			i := chance(10) - 1
			want, we := deliver(i)
			if r, e := d.Deliver(i, m); r != want || e != we {
				t.Fatal("Deliver", i, r, e, want, we)
			}
		default:
			r := api.Request{Id: uint32(chance(9)), Write: chance(2) == 0, Sector: chance(size+2) - 1, Frame: chance(small+3) - 1, Owner: uint8(chance(5))}
			if chance(9) == 0 {
				r.Frame = 62 + chance(4)
			}
			want, we := take(r)
			if id, e := d.Ask(r); id != want || e != we {
				t.Fatal("Ask", r, id, e, want, we)
			}
		}
		same(t, "any order", d, sectors, waiting)
		if !bytes.Equal(frames(t, m), bytesOf) {
			t.Fatal("the memory is otherwise")
		}
	}
}
