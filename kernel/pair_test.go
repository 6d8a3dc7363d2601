package kernel

import (
	"bytes"
	"slices"
	"testing"

	"embrasure/api"
)

// pair is a kernel, and its model. Each call is made of both, and all that the kernel tells then is held against the model.
type pair struct {
	t    *testing.T
	k    *Kernel
	m    *model
	what string // the call that was made last
}

func newPair(t *testing.T, frames, sectors, cores int) *pair {
	t.Helper()
	p := &pair{t: t, k: New(frames, sectors, cores), m: newModel(frames, sectors, cores)}
	if p.k == nil {
		t.Fatal("none")
	}
	p.told("a new one")
	return p
}

// alike fails, unless two answers are the same.
func alike[T comparable](p *pair, what string, got, want T) {
	if got != want {
		p.t.Helper()
		p.t.Fatal(p.what, what, got, "not", want)
	}
}

// alikeLists fails, unless two lists are the same.
func alikeLists[T comparable](p *pair, what string, got, want []T) {
	if !slices.Equal(got, want) {
		p.t.Helper()
		p.t.Fatal(p.what, what, got, "not", want)
	}
}

func (p *pair) spawn(code []byte, frames int) (uint8, api.Errno) {
	p.t.Helper()
	env, e := p.k.Spawn(code, frames)
	want, f := p.m.spawn(code, frames)
	alike(p, "Spawn", env, want)
	alike(p, "Spawn", e, f)
	p.told("Spawn")
	return env, e
}

func (p *pair) extent(env uint8, start, many int) (uint32, api.Errno) {
	p.t.Helper()
	id, e := p.k.Extent(env, start, many)
	want, f := p.m.extent(env, start, many)
	alike(p, "Extent", id, want)
	alike(p, "Extent", e, f)
	p.told("Extent")
	return id, e
}

// errno is an answer that is an error alone.
func (p *pair) errno(what string, got, want api.Errno) api.Errno {
	p.t.Helper()
	alike(p, what, got, want)
	p.told(what)
	return got
}

func (p *pair) slice(core int, env uint8, place int) api.Errno {
	p.t.Helper()
	return p.errno("Slice", p.k.Slice(core, env, place), p.m.slice(core, env, place))
}

func (p *pair) quota(env uint8, n int) api.Errno {
	p.t.Helper()
	return p.errno("Quota", p.k.Quota(env, n), p.m.setQuota(env, n))
}

func (p *pair) call(env uint8, kind api.CallKind, x, y, z api.Word) (api.Word, api.Errno) {
	p.t.Helper()
	v, e := p.k.Call(env, kind, x, y, z)
	want, f := p.m.call(env, kind, x, y, z)
	if v != want || e != f {
		p.t.Fatal("Call", env, kind, x, y, z, ":", v, e, "not", want, f)
	}
	p.told("Call")
	return v, e
}

// must is a call that is done; its value.
func (p *pair) must(env uint8, kind api.CallKind, x, y, z api.Word) api.Word {
	p.t.Helper()
	v, e := p.call(env, kind, x, y, z)
	if e != api.OK {
		p.t.Fatal("Call", env, kind, x, y, z, e)
	}
	return v
}

// refused is a call that has an error, and changes nothing.
func (p *pair) refused(want api.Errno, env uint8, kind api.CallKind, x, y, z api.Word) {
	p.t.Helper()
	was := p.m.another()
	if v, e := p.call(env, kind, x, y, z); v != 0 || e != want {
		p.t.Fatal("Call", env, kind, x, y, z, v, e, "not", want)
	}
	(&pair{t: p.t, k: p.k, m: was}).told("refused")
}

func (p *pair) load(core int, env uint8, addr api.Word, wide bool) (api.Word, api.Errno) {
	p.t.Helper()
	v, e := p.k.Load(core, env, addr, wide)
	want, f := p.m.load(core, env, addr, wide)
	if v != want || e != f {
		p.t.Fatal("Load", core, env, addr, wide, ":", v, e, "not", want, f)
	}
	p.told("Load")
	return v, e
}

func (p *pair) store(core int, env uint8, addr, value api.Word, wide bool) api.Errno {
	p.t.Helper()
	return p.errno("Store", p.k.Store(core, env, addr, value, wide), p.m.store(core, env, addr, value, wide))
}

func (p *pair) upcall(env uint8, kind api.UpcallKind, arg api.Word) bool {
	p.t.Helper()
	got := p.k.Upcall(env, kind, arg)
	alike(p, "Upcall", got, p.m.upcall(env, kind, arg))
	p.told("Upcall")
	return got
}

func (p *pair) exit(env uint8) api.Errno {
	p.t.Helper()
	return p.errno("Exit", p.k.Exit(env), p.m.exit(env))
}

func (p *pair) revoke(env, frame uint8, within int) api.Errno {
	p.t.Helper()
	return p.errno("Revoke", p.k.Revoke(env, frame, within), p.m.revoke(env, frame, within))
}

func (p *pair) tick() []api.Asked {
	p.t.Helper()
	got := p.k.Tick()
	alikeLists(p, "Tick", got, p.m.tick())
	p.told("Tick")
	return got
}

func (p *pair) deliver(i int) (api.Request, api.Errno) {
	p.t.Helper()
	r, e := p.k.Deliver(i)
	want, f := p.m.deliver(i)
	alike(p, "Deliver", r, want)
	alike(p, "Deliver", e, f)
	p.told("Deliver")
	return r, e
}

func (p *pair) turn(core int) (uint8, bool) {
	p.t.Helper()
	env, ok := p.k.Turn(core)
	want, there := p.m.turn(core)
	alike(p, "Turn", env, want)
	alike(p, "Turn", ok, there)
	p.told("Turn")
	return env, ok
}

func (p *pair) over(core int, env uint8, steps int) api.Errno {
	p.t.Helper()
	return p.errno("Over", p.k.Over(core, env, steps), p.m.over(core, env, steps))
}

func (p *pair) set(env uint8, s api.Regs) api.Errno {
	p.t.Helper()
	return p.errno("Set", p.k.Set(env, s), p.m.set(env, s))
}

// put lays a capability into a slot that no call could lay there.
func (p *pair) put(env uint8, slot int, c api.Cap) {
	p.t.Helper()
	if e := p.k.who(env).Put(slot, c); e != api.OK {
		p.t.Fatal(c, e)
	}
	p.m.envs[env].caps[slot] = c
	p.told("put")
}

// share lets another environment have a frame, too, which no call can.
func (p *pair) share(from, to, frame uint8) {
	p.t.Helper()
	if e := p.k.pool.Share(from, to, frame); e != api.OK {
		p.t.Fatal(from, to, frame, e)
	}
	f := &p.m.frames[frame]
	f.owners = append(f.owners, to)
	slices.Sort(f.owners)
	p.m.events = append(p.m.events, api.Event{Kind: api.Shared, Env: to, Frame: frame})
	p.told("share")
}

// fork is a pair of a fork, which goes its own way.
func (p *pair) fork() *pair {
	return &pair{t: p.t, k: p.k.Fork(), m: p.m.another()}
}

// told holds all that a kernel tells, also of what is not there, against the model.
func (p *pair) told(what string) {
	p.t.Helper()
	p.what = what
	k, m := p.k, p.m
	alike(p, "Envs", k.Envs(), len(m.envs))
	alike(p, "Time", k.Time(), m.time)
	alike(p, "Cores", k.Cores(), len(m.cores))
	alikeLists(p, "Events", k.Events(), m.events)
	alikeLists(p, "Log", k.Log(), m.log)
	alikeLists(p, "Asked", k.Asked(), m.open)
	alikeLists(p, "Waiting", k.Waiting(), m.queue)
	for _, env := range []uint8{0, 1, 2, 3, 4, 5, 6, 7, 64, 255} {
		p.toldOf(env)
	}
	p.toldCores()
	p.toldGoods()
}

// toldOf is told of an environment.
func (p *pair) toldOf(env uint8) {
	p.t.Helper()
	k, want := p.k, &modelEnv{}
	made := int(env) < len(p.m.envs)
	if made {
		want = p.m.envs[env]
	}
	alike(p, "Alive", k.Alive(env), want.alive)
	alike(p, "Regs", k.Regs(env), want.regs)
	alike(p, "Depth", k.Depth(env), len(want.kept))
	alikeLists(p, "Frames", k.Frames(env), p.m.had(env))
	alikeLists(p, "Lost", k.Lost(env), want.lost)
	var maps []api.Mapping
	for _, at := range want.maps {
		if at != nil {
			maps = append(maps, *at)
		}
	}
	alikeLists(p, "Maps", k.Maps(env), maps)
	var slots []int
	for slot := -1; slot < 14; slot++ {
		c, e := want.slot(slot)
		if !made {
			e = api.ErrRange
		}
		if c.Name != "" {
			slots = append(slots, slot)
		}
		got, f := k.Cap(env, slot)
		alike(p, "Cap", got, c)
		alike(p, "Cap", f, e)
	}
	alikeLists(p, "Slots", k.Slots(env), slots)
	for _, guard := range guards() {
		open := made && guard.Name != "e0" && guard.Rights < 32 && p.m.opens(env, guard.Name, guard.Rights)
		alike(p, "Opens", k.Opens(env, guard), open)
	}
}

// guards are some, of which the last two are none.
func guards() []api.Cap {
	var l []api.Cap
	for env := range uint8(6) {
		for _, rights := range []uint8{0, 1, 2, 31} {
			l = append(l, api.Cap{Name: ownName(env), Rights: rights})
		}
	}
	return append(l, api.Cap{Name: "/e0/x", Rights: 2}, api.Cap{Name: "/", Rights: 1}, api.Cap{Name: "e0"}, api.Cap{Name: "/e0", Rights: 32})
}

// toldCores is told of cores.
func (p *pair) toldCores() {
	p.t.Helper()
	for core := -1; core <= 4; core++ {
		want := &modelCore{places: [8]int{-1, -1, -1, -1, -1, -1, -1, -1}}
		if p.m.isCore(core) {
			want = p.m.cores[core]
		}
		alikeLists(p, "Tlb", p.k.Tlb(core), want.hand)
		for place := -1; place <= 9; place++ {
			taken := place >= 0 && place < 8 && want.places[place] >= 0
			alike(p, "Taken", p.k.Taken(core, place), taken)
		}
	}
}

// toldGoods is told of frames and sectors.
func (p *pair) toldGoods() {
	p.t.Helper()
	for n := -1; n <= 65; n++ {
		var frame, sector []byte
		e, f := api.ErrRange, api.ErrRange
		if n >= 0 && n < len(p.m.frames) {
			frame, e = p.m.frames[n].bytes[:], api.OK
		}
		if n >= 0 && n < len(p.m.sectors) {
			sector, f = p.m.sectors[n][:], api.OK
		}
		got, g := p.k.Frame(n)
		if !bytes.Equal(got, frame) || g != e {
			p.t.Fatal(p.what, "Frame", n, got, g, "not", frame, e)
		}
		if got, g = p.k.Sector(n); !bytes.Equal(got, sector) || g != f {
			p.t.Fatal(p.what, "Sector", n, got, g, "not", sector, f)
		}
		guard, had := "", false
		if n >= 0 && n < len(p.m.frames) {
			guard, had = p.m.frames[n].guard, len(p.m.frames[n].owners) > 0
		}
		if c, ok := p.k.Guard(uint8(n)); c != (api.Cap{Name: guard}) || ok != had {
			p.t.Fatal(p.what, "Guard", n, c, ok, "not", guard, had)
		}
	}
}

// chances are numbers that look like chance, and are the same each time.
func chances(seed uint32) func(int) int {
	return func(n int) int {
		seed = seed*1664525 + 1013904223
		return int(seed>>8) % n
	}
}

// word is a small one, seldom one at an edge, or one whose lower byte is small.
func word(chance func(int) int, below int) api.Word {
	switch chance(40) {
	case 0:
		return 0xffff
	case 1:
		return 256 + api.Word(chance(6))
	case 2:
		return api.Word(below)
	}
	return api.Word(chance(below))
}

// arguments are those of a kind of call, so that it is done often.
func (p *pair) arguments(env uint8, kind api.CallKind, chance func(int) int) (x, y, z api.Word) {
	frames, sectors := len(p.m.frames), len(p.m.sectors)
	had := word(chance, frames)
	if l := p.m.had(env); len(l) > 0 && chance(3) > 0 {
		had = api.Word(l[chance(len(l))])
	}
	switch kind {
	case api.AllocCall:
		return word(chance, frames), word(chance, 3), 0
	case api.FreeCall:
		return had, 0, 0
	case api.MapCall:
		return word(chance, 6), had, word(chance, 2)
	case api.UnmapCall:
		return word(chance, 16), 0, 0
	case api.GiveCall:
		return word(chance, 3), api.Word(p.anyone(chance)), 0
	case api.RestrictCall:
		return word(chance, 3), word(chance, 12), word(chance, 32)
	case api.DropCall:
		return 1 + word(chance, 12), 0, 0
	case api.EntryCall:
		return word(chance, 5), word(chance, 512), 0
	case api.CallCall:
		return api.Word(p.anyone(chance)), word(chance, 512), 0
	case api.ReadCall, api.WriteCall:
		return word(chance, sectors), had, 0
	}
	return word(chance, 8), word(chance, 12), word(chance, 32)
}

// living are the environments that live.
func (p *pair) living() []uint8 {
	var l []uint8
	for env := range uint8(6) {
		if p.m.lives(env) {
			l = append(l, env)
		}
	}
	return l
}

// anyone is an environment that lives, seldom another one, or none.
func (p *pair) anyone(chance func(int) int) uint8 {
	if l := p.living(); len(l) > 0 && chance(15) > 0 {
		return l[chance(len(l))]
	}
	return uint8(chance(7) + chance(2)*chance(250))
}

// play makes one call, whatever it is; it tells which, and whether it was done.
func (p *pair) play(chance func(int) int) (string, bool) {
	env := p.anyone(chance)
	core := chance(len(p.m.cores)+2) - 1
	switch what := chance(40); {
	case what < 16:
		kind := api.CallKind(chance(19))
		if kind >= api.TimeCall && chance(6) > 0 {
			kind = api.ReadCall + api.CallKind(chance(2))
		}
		x, y, z := p.arguments(env, kind, chance)
		_, e := p.call(env, kind, x, y, z)
		return callNames()[kind], e == api.OK
	case what < 19:
		_, e := p.load(core, env, api.Word(chance(200)), chance(2) == 0)
		return "load", e == api.OK
	case what < 22:
		e := p.store(core, env, api.Word(chance(200)), api.Word(chance(65536)), chance(2) == 0)
		return "store", e == api.OK
	case what < 24:
		return "upcall", p.upcall(env, api.UpcallKind(chance(30)/6), api.Word(chance(65536)))
	case what < 27:
		return "revoke", p.revoke(env, uint8(chance(len(p.m.frames)+1)), chance(6)-1) == api.OK
	case what < 30:
		return "tick", len(p.tick()) > 0
	case what < 32:
		_, e := p.deliver(chance(4) - 1)
		return "deliver", e == api.OK
	}
	return p.playMore(env, core, chance)
}

// playMore is play, of calls that are made seldom.
func (p *pair) playMore(env uint8, core int, chance func(int) int) (string, bool) {
	switch chance(9) {
	case 0, 1:
		frames := chance(6)
		_, e := p.spawn(make([]byte, chance(frames*32+2)), frames)
		return "spawn", e == api.OK
	case 2:
		_, e := p.extent(env, chance(len(p.m.sectors)+2)-1, chance(4))
		return "extent", e == api.OK
	case 3:
		return "slice", p.slice(core, env, chance(10)-1) == api.OK
	case 4:
		return "quota", p.quota(env, chance(12)-1) == api.OK
	case 5:
		_, ok := p.turn(core)
		return "turn", ok
	case 6:
		return "over", p.over(core, env, chance(10)-1) == api.OK
	case 7:
		return "set", p.set(env, api.Regs{Pc: api.Word(chance(65536)), R: [8]api.Word{3: api.Word(chance(9))}}) == api.OK
	}
	if chance(8) > 0 {
		return "none", true
	}
	return "exit", p.exit(env) == api.OK
}

func callNames() []string {
	return []string{"NoCall", "Alloc", "Free", "Map", "Unmap", "Give", "Restrict", "Drop", "Entry", "Return", "Call", "Yield", "Read", "Write", "Time", "Self", "Lost", "Exit", "Calls"}
}

// probe plays many calls on a fork of both, so that what is told by no call of its own (where upcalls come to, what is kept of registers, quotas, whose turn it is, extents, the next numbers) is held against the model, too.
func (p *pair) probe(what string) {
	p.t.Helper()
	p.told(what)
	f, chance := p.fork(), chances(7)
	for env := range uint8(6) {
		for slot := range 8 {
			f.turn(slot % 3)
			f.extent(env, slot, 1)
			f.call(env, api.ReadCall, api.Word(slot), api.Word(slot), 0)
		}
		for kind := range api.UpcallKind(5) {
			f.fork().upcall(env, kind, 1)
		}
		f.call(env, api.AllocCall, api.Word(env), 0, 0)
		f.call(env, api.ReturnCall, 0, 0, 0)
	}
	for range 60 {
		f.play(chance)
	}
}
