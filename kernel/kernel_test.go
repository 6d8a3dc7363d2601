package kernel

import (
	"bytes"
	"math"
	"slices"
	"testing"

	"embrasure/api"
)

// outside are numbers that are none of anything.
func outside() []int {
	return []int{-1, -2, math.MinInt, 64, 65, 256, 1<<16 + 1, 1<<32 + 1, math.MaxInt}
}

// count are bytes that rise from 1 on.
func count(many int) []byte {
	l := make([]byte, many)
	for i := range l {
		l[i] = byte(i%255 + 1)
	}
	return l
}

// both is a pair with two environments, of three frames (0 to 2) and of two (3 and 4), of eight frames, eight sectors and two cores.
func both(t *testing.T) *pair {
	t.Helper()
	p := newPair(t, 8, 8, 2)
	if env, e := p.spawn(count(70), 3); env != 0 || e != api.OK {
		t.Fatal(env, e)
	}
	if env, e := p.spawn([]byte{200, 201}, 2); env != 1 || e != api.OK {
		t.Fatal(env, e)
	}
	return p
}

// crowd is both, with environment 1 ended, and 2 with frames 3, 4 and 5.
func crowd(t *testing.T) *pair {
	t.Helper()
	p := both(t)
	if e := p.exit(1); e != api.OK {
		t.Fatal(e)
	}
	if env, e := p.spawn(nil, 3); env != 2 || e != api.OK {
		t.Fatal(env, e)
	}
	return p
}

// dead are environments of crowd that do not live.
func dead() []uint8 {
	return []uint8{1, 3, 5, 6, 64, 128, 255}
}

func TestP16_1New(t *testing.T) {
	for _, frames := range []int{1, 2, 63, 64} {
		for _, sectors := range []int{1, 2, 63, 64} {
			for cores := 1; cores <= 3; cores++ {
				newPair(t, frames, sectors, cores)
			}
		}
	}
	for _, n := range append(outside()[:3], 0, 65, 66, 1<<32+1, math.MaxInt) {
		if New(n, 4, 1) != nil || New(4, n, 1) != nil || New(4, 4, n) != nil || New(n, n, n) != nil {
			t.Error(n)
		}
	}
	if New(4, 4, 4) != nil || New(64, 64, 4) != nil {
		t.Error("four cores")
	}
}

func TestP16_1Example(t *testing.T) {
	p := newPair(t, 8, 4, 1)
	env, e := p.spawn([]byte{9}, 2)
	want := []api.Mapping{{Page: 0, Frame: 0, Write: true}, {Page: 1, Frame: 1, Write: true}}
	if env != 0 || e != api.OK || !slices.Equal(p.k.Frames(0), []uint8{0, 1}) || !slices.Equal(p.k.Maps(0), want) {
		t.Error(env, e, p.k.Frames(0), p.k.Maps(0))
	}
}

// TestP16_1Spawn: all that an environment has at first.
func TestP16_1Spawn(t *testing.T) {
	p := newPair(t, 64, 1, 1)
	for n, frames := range []int{1, 2, 15, 16, 3} {
		first := len(p.k.Events())
		code := count(frames*32 - n)
		env, e := p.spawn(code, frames)
		if int(env) != n || e != api.OK || p.k.Envs() != n+1 || !p.k.Alive(env) {
			t.Fatal(n, env, e)
		}
		name := []string{"/e0", "/e1", "/e2", "/e3", "/e4"}[n]
		if c, e := p.k.Cap(env, 0); c != (api.Cap{Name: name, Rights: api.AllRights}) || e != api.OK || !slices.Equal(p.k.Slots(env), []int{0}) {
			t.Fatal(n, c, e)
		}
		if p.k.Regs(env) != (api.Regs{}) || p.k.Depth(env) != 0 || len(p.k.Maps(env)) != frames || len(p.k.Events()) != first+frames {
			t.Fatal(n, "at first")
		}
		var stands []byte
		for page, m := range p.k.Maps(env) {
			if m != (api.Mapping{Asid: env, Page: uint8(page), Frame: uint8(first + page), Write: true}) {
				t.Fatal(n, m)
			}
			if g, ok := p.k.Guard(m.Frame); g != (api.Cap{Name: name}) || !ok {
				t.Fatal(n, g, ok)
			}
			if e := p.k.Events()[first+page]; e != (api.Event{Kind: api.Granted, Env: env, Frame: m.Frame}) {
				t.Fatal(n, e)
			}
			b, _ := p.k.Frame(int(m.Frame))
			stands = append(stands, b...)
		}
		if !bytes.Equal(stands, append(code, make([]byte, n)...)) {
			t.Fatal(n, stands)
		}
	}
	if len(p.k.Log()) != 0 {
		t.Error("a code is no access", p.k.Log())
	}
}

// TestP16_1SpawnRange: frames and codes at their edges.
func TestP16_1SpawnRange(t *testing.T) {
	for _, frames := range append(outside(), 0, 17, 18) {
		for _, many := range []int{0, 1, 32, 600} {
			p := newPair(t, 64, 1, 1)
			if env, e := p.spawn(count(many), frames); env != 0 || e != api.ErrRange {
				t.Fatal(frames, many, e)
			}
		}
	}
	for _, frames := range []int{1, 2, 15, 16} {
		for more := -1; more <= 2; more++ {
			p := newPair(t, 64, 1, 1)
			_, e := p.spawn(count(frames*32+more), frames)
			if (e == api.OK) != (more <= 0) || more > 0 && e != api.ErrRange {
				t.Fatal(frames, more, e)
			}
		}
	}
	p := newPair(t, 1, 1, 1)
	if _, e := p.spawn(nil, 1); e != api.OK {
		t.Fatal(e)
	}
	if _, e := p.spawn(count(33), 1); e != api.ErrRange {
		t.Error("ahead of ErrSpace", e)
	}
	if _, e := p.spawn(nil, 17); e != api.ErrRange {
		t.Error("ahead of ErrSpace", e)
	}
}

// TestP16_1SpawnSpace: as many frames as are free, and one more; MaxEnvs, and one more, though frames are free and all but one ended.
func TestP16_1SpawnSpace(t *testing.T) {
	p := newPair(t, 5, 1, 1)
	for _, step := range []struct {
		frames int
		e      api.Errno
	}{{6, api.ErrSpace}, {3, api.OK}, {3, api.ErrSpace}, {2, api.OK}, {1, api.ErrSpace}} {
		if _, e := p.spawn(nil, step.frames); e != step.e {
			t.Fatal(step, e)
		}
	}
	p = newPair(t, 64, 1, 1)
	for n := range 6 {
		if env, e := p.spawn([]byte{7}, 1); int(env) != n || e != api.OK {
			t.Fatal(n, env, e)
		}
		if n > 0 {
			p.exit(uint8(n))
		}
	}
	for _, frames := range []int{1, 16} {
		if env, e := p.spawn(nil, frames); env != 0 || e != api.ErrSpace {
			t.Fatal(env, e)
		}
	}
	if p.k.Envs() != 6 {
		t.Error(p.k.Envs())
	}
}

// TestP16_1SpawnGaps: the least frames that are free, which need not lie side by side; they are 0 behind the code, whatever stood there.
func TestP16_1SpawnGaps(t *testing.T) {
	p := both(t)
	for _, addr := range []api.Word{0, 31, 64, 95} {
		p.store(0, 0, addr, 255, false)
	}
	p.must(0, api.FreeCall, 0, 0, 0)
	p.must(0, api.FreeCall, 2, 0, 0)
	env, e := p.spawn(count(65), 4)
	if env != 2 || e != api.OK || !slices.Equal(p.k.Frames(2), []uint8{0, 2, 5, 6}) {
		t.Fatal(env, e, p.k.Frames(2))
	}
	for page, frame := range []int{0, 2, 5, 6} {
		b, _ := p.k.Frame(frame)
		want := make([]byte, 32)
		copy(want, count(65)[min(page*32, 65):])
		if !bytes.Equal(b, want) {
			t.Error(frame, b)
		}
	}
}

// TestP3SpawnKeepsNothing: what is handed in stays as it is, also behind its end, and is not kept.
func TestP3SpawnKeepsNothing(t *testing.T) {
	p := newPair(t, 8, 1, 1)
	room := count(100)
	if _, e := p.spawn(room[:40], 3); e != api.OK {
		t.Fatal(e)
	}
	if !bytes.Equal(room, count(100)) {
		t.Error("what was handed in changes", room)
	}
	p.store(0, 0, 3, 99, false)
	if !bytes.Equal(room, count(100)) {
		t.Error("what was handed in changes", room)
	}
	clear(room)
	p.told("what was handed in")
}

func TestP16_1Extent(t *testing.T) {
	p := crowd(t)
	for _, env := range dead() {
		for _, n := range []int{-1, 0, 1, 9} {
			if id, e := p.extent(env, n, n); id != 0 || e != api.ErrNoent {
				t.Fatal(env, n, id, e)
			}
		}
	}
	for _, n := range outside() {
		for _, args := range [][2]int{{n, 1}, {0, n}, {n, n}, {7, n}} {
			if id, e := p.extent(0, args[0], args[1]); id != 0 || e != api.ErrRange {
				t.Fatal(args, id, e)
			}
		}
	}
	for _, step := range []struct {
		env         uint8
		start, many int
		id          uint32
		e           api.Errno
	}{{0, 0, 0, 0, api.ErrRange}, {0, 0, 9, 0, api.ErrRange}, {0, 8, 1, 0, api.ErrRange}, {0, 2, 3, 1, api.OK}, {2, 4, 2, 0, api.ErrBusy}, {0, 2, 3, 0, api.ErrBusy}, {2, 5, 3, 2, api.OK}, {0, 7, 1, 0, api.ErrBusy}, {2, 0, 2, 3, api.OK}} {
		if id, e := p.extent(step.env, step.start, step.many); id != step.id || e != step.e {
			t.Fatal(step, id, e)
		}
	}
	for sector, owner := range []uint8{2, 2, 0, 0, 0, 2, 2, 2} {
		x, ok := p.k.extents.At(sector)
		if !ok || x.Owner != owner || x.Guard != (api.Cap{Name: ownName(owner)}) {
			t.Error(sector, x)
		}
	}
}

func TestP16_1ExtentSpace(t *testing.T) {
	p := newPair(t, 4, 64, 1)
	p.spawn(nil, 1)
	p.spawn(nil, 1)
	for n := range 24 {
		if id, e := p.extent(uint8(n%2), n, 1); int(id) != n+1 || e != api.OK {
			t.Fatal(n, id, e)
		}
	}
	if id, e := p.extent(0, 30, 1); id != 0 || e != api.ErrSpace {
		t.Error(id, e)
	}
	p.exit(0)
	if id, e := p.extent(1, 0, 1); id != 25 || e != api.OK {
		t.Error(id, e)
	}
}

func TestP16_1Slice(t *testing.T) {
	p := crowd(t)
	for _, env := range dead() {
		for _, n := range []int{-1, 0, 1, 2, 9} {
			if e := p.slice(n, env, n); e != api.ErrNoent {
				t.Fatal(env, n, e)
			}
		}
	}
	for _, n := range append(outside(), 2, 3) {
		if e := p.slice(n, 0, 0); e != api.ErrRange {
			t.Fatal(n, e)
		}
	}
	for _, n := range append(outside(), 8, 9) {
		if e := p.slice(1, 2, n); e != api.ErrRange {
			t.Fatal(n, e)
		}
	}
	for place := range 8 {
		for core := range 2 {
			env := uint8(place % 2 * 2)
			if e := p.slice(core, env, place); e != api.OK {
				t.Fatal(core, env, place, e)
			}
			for _, other := range []uint8{0, 2} {
				if e := p.slice(core, other, place); e != api.ErrExist {
					t.Fatal(core, other, place, e)
				}
			}
		}
	}
	if e := p.slice(2, 0, 0); e != api.ErrRange {
		t.Error("no such core comes first", e)
	}
}

func TestP16_1Quota(t *testing.T) {
	p := crowd(t)
	for _, env := range dead() {
		for _, n := range []int{-1, 0, 5, 65} {
			if e := p.quota(env, n); e != api.ErrNoent {
				t.Fatal(env, n, e)
			}
		}
	}
	for _, n := range []int{-1, math.MinInt, 65, 1<<32 + 1, math.MaxInt} {
		if e := p.quota(0, n); e != api.ErrRange {
			t.Fatal(n, e)
		}
	}
	for _, n := range []int{64, 0, 4} {
		if e := p.quota(0, n); e != api.OK {
			t.Fatal(n, e)
		}
	}
	p.must(0, api.AllocCall, 7, 0, 0)
	p.refused(api.ErrQuota, 0, api.AllocCall, 6, 0, 0)
	p.quota(0, 5)
	p.must(0, api.AllocCall, 6, 0, 0)
	p.quota(0, 0)
	p.must(0, api.FreeCall, 6, 0, 0)
	p.refused(api.ErrQuota, 0, api.AllocCall, 6, 0, 0)
	p.must(2, api.AllocCall, 6, 0, 0)
}

func TestP16_4Set(t *testing.T) {
	p := crowd(t)
	regs := api.Regs{Pc: 0xffff, R: [8]api.Word{1, 2, 3, 4, 5, 6, 7, 0xffff}}
	for _, env := range dead() {
		if e := p.set(env, regs); e != api.ErrNoent {
			t.Fatal(env, e)
		}
	}
	for _, s := range []api.Regs{regs, {}, {Pc: 4}} {
		if e := p.set(2, s); e != api.OK || p.k.Regs(2) != s || p.k.Regs(0) != (api.Regs{}) {
			t.Fatal(s, e)
		}
	}
}

// TestP16_4Turn: of each core by itself; of no such core there is none.
func TestP16_4Turn(t *testing.T) {
	p := crowd(t)
	for _, n := range append(outside(), 2, 3, 0, 1) {
		if env, ok := p.turn(n); env != 0 || ok {
			t.Fatal(n, env, ok)
		}
	}
	p.slice(0, 2, 0)
	p.slice(0, 0, 3)
	p.slice(1, 0, 7)
	for _, want := range []uint8{2, 0, 2} {
		if env, ok := p.turn(0); env != want || !ok {
			t.Fatal(env, ok, "not", want)
		}
		if env, ok := p.turn(1); env != 0 || !ok {
			t.Fatal(env, ok)
		}
	}
	p.exit(0)
	for range 2 {
		if env, ok := p.turn(0); env != 2 || !ok {
			t.Fatal(env, ok)
		}
		if env, ok := p.turn(1); env != 0 || ok {
			t.Fatal(env, ok)
		}
	}
}

func TestP16_4Over(t *testing.T) {
	p := crowd(t)
	for _, env := range dead() {
		for _, n := range []int{-1, 0, 2, 1001} {
			if e := p.over(n, env, n); e != api.ErrNoent {
				t.Fatal(env, n, e)
			}
		}
	}
	for _, n := range append(outside(), 2, 3) {
		if e := p.over(n, 0, 5); e != api.ErrRange {
			t.Fatal(n, e)
		}
	}
	for _, n := range []int{-1, math.MinInt, 1001, 1<<32 + 1, math.MaxInt} {
		if e := p.over(1, 0, n); e != api.ErrRange {
			t.Fatal(n, e)
		}
	}
	p.slice(0, 0, 0)
	p.slice(0, 2, 1)
	p.slice(1, 0, 0)
	for _, steps := range []int{0, 4, 6} {
		if e := p.over(0, 0, steps); e != api.OK {
			t.Fatal(steps, e)
		}
	}
	for _, want := range []uint8{2, 2, 0, 2, 0} {
		if env, ok := p.turn(0); env != want || !ok {
			t.Fatal(env, ok, "not", want)
		}
	}
	if env, ok := p.turn(1); env != 0 || !ok {
		t.Error("another core", env, ok)
	}
}
