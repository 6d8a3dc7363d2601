package kernel

import (
	"maps"
	"slices"
	"strings"

	"embrasure/api"
)

// model is a kernel written out plainly, without any of the other layers.
type model struct {
	frames  []modelFrame
	sectors [][32]byte
	extents []modelExtent
	number  uint32 // of the extent that was made last
	envs    []*modelEnv
	cores   []*modelCore
	queue   []api.Request
	last    uint32 // the number of the last request
	open    []api.Asked
	events  []api.Event
	log     []api.Noted
	time    int
}

type modelFrame struct {
	owners []uint8
	guard  string
	bytes  [32]byte
}

type modelExtent struct {
	owner       uint8
	start, many int
}

type modelEnv struct {
	alive   bool
	regs    api.Regs
	kept    []api.Regs
	entries map[api.UpcallKind]api.Word
	caps    [12]api.Cap
	maps    [16]*api.Mapping
	quota   int
	lost    []uint8
}

type modelCore struct {
	hand    []api.Mapping
	places  [8]int // -1: nobody's
	penalty [6]int
	now     int
}

func newModel(frames, sectors, cores int) *model {
	m := &model{frames: make([]modelFrame, frames), sectors: make([][32]byte, sectors)}
	for range cores {
		m.cores = append(m.cores, &modelCore{places: [8]int{-1, -1, -1, -1, -1, -1, -1, -1}, now: 7})
	}
	return m
}

// another is a model with the same, in room of its own.
func (m *model) another() *model {
	n := *m
	n.frames = slices.Clone(m.frames)
	for i := range n.frames {
		n.frames[i].owners = slices.Clone(m.frames[i].owners)
	}
	n.sectors, n.extents = slices.Clone(m.sectors), slices.Clone(m.extents)
	n.envs, n.cores = nil, nil
	for _, was := range m.envs {
		env := *was
		env.kept, env.entries, env.lost = slices.Clone(was.kept), maps.Clone(was.entries), slices.Clone(was.lost)
		for page, at := range was.maps {
			if at != nil {
				same := *at
				env.maps[page] = &same
			}
		}
		n.envs = append(n.envs, &env)
	}
	for _, was := range m.cores {
		core := *was
		core.hand = slices.Clone(was.hand)
		n.cores = append(n.cores, &core)
	}
	n.queue, n.open, n.events, n.log = slices.Clone(m.queue), slices.Clone(m.open), slices.Clone(m.events), slices.Clone(m.log)
	return &n
}

func (m *model) lives(env uint8) bool {
	return int(env) < len(m.envs) && m.envs[env].alive
}

func (m *model) isCore(core int) bool {
	return core >= 0 && core < len(m.cores)
}

// ownName is / , e and the number.
func ownName(env uint8) string {
	return "/e" + string(rune('0'+env))
}

func (m *model) had(env uint8) []uint8 {
	var l []uint8
	for i, f := range m.frames {
		if slices.Contains(f.owners, env) {
			l = append(l, uint8(i))
		}
	}
	return l
}

// opens tells whether a capability of an environment opens a name with a right.
func (m *model) opens(env uint8, name string, right uint8) bool {
	for _, c := range m.envs[env].caps {
		above := c.Name == "/" || c.Name == name || c.Name != "" && strings.HasPrefix(name, c.Name+"/")
		if above && c.Rights&right == right {
			return true
		}
	}
	return false
}

func (m *model) spawn(code []byte, frames int) (uint8, api.Errno) {
	if frames < 1 || frames > 16 || len(code) > frames*32 {
		return 0, api.ErrRange
	}
	var free []int
	for i, f := range m.frames {
		if len(f.owners) == 0 {
			free = append(free, i)
		}
	}
	if len(m.envs) >= 6 || len(free) < frames {
		return 0, api.ErrSpace
	}
	env := uint8(len(m.envs))
	e := &modelEnv{alive: true, entries: map[api.UpcallKind]api.Word{}, quota: len(m.frames)}
	e.caps[0] = api.Cap{Name: ownName(env), Rights: 31}
	m.envs = append(m.envs, e)
	for page := range frames {
		at := free[page]
		m.frames[at].owners, m.frames[at].guard = []uint8{env}, ownName(env)
		m.events = append(m.events, api.Event{Kind: api.Granted, Env: env, Frame: uint8(at)})
		e.maps[page] = &api.Mapping{Asid: env, Page: uint8(page), Frame: uint8(at), Write: true}
	}
	for i, b := range code {
		m.frames[free[i/32]].bytes[i%32] = b
	}
	return env, api.OK
}

func (m *model) extent(env uint8, start, many int) (uint32, api.Errno) {
	if !m.lives(env) {
		return 0, api.ErrNoent
	}
	if many < 1 || start < 0 || start >= len(m.sectors) || many > len(m.sectors)-start {
		return 0, api.ErrRange
	}
	for sector := start; sector < start+many; sector++ {
		if _, ok := m.at(sector); ok {
			return 0, api.ErrBusy
		}
	}
	if len(m.extents) >= 24 {
		return 0, api.ErrSpace
	}
	m.number++
	m.extents = append(m.extents, modelExtent{env, start, many})
	return m.number, api.OK
}

// at is who has a sector.
func (m *model) at(sector int) (uint8, bool) {
	for _, x := range m.extents {
		if sector >= x.start && sector < x.start+x.many {
			return x.owner, true
		}
	}
	return 0, false
}

func (m *model) slice(core int, env uint8, place int) api.Errno {
	switch {
	case !m.lives(env):
		return api.ErrNoent
	case !m.isCore(core) || place < 0 || place > 7:
		return api.ErrRange
	case m.cores[core].places[place] >= 0:
		return api.ErrExist
	}
	m.cores[core].places[place] = int(env)
	return api.OK
}

func (m *model) setQuota(env uint8, n int) api.Errno {
	if !m.lives(env) {
		return api.ErrNoent
	}
	if n < 0 || n > 64 {
		return api.ErrRange
	}
	m.envs[env].quota = n
	return api.OK
}

// unmap takes out a page's mapping, and what is at hand of it.
func (m *model) unmap(env, page uint8) {
	m.envs[env].maps[page] = nil
	for _, c := range m.cores {
		var stay []api.Mapping
		for _, h := range c.hand {
			if h.Asid != env || h.Page != page {
				stay = append(stay, h)
			}
		}
		c.hand = stay
	}
}

// letGo is what becomes of a frame that an environment has not any more.
func (m *model) letGo(env, frame uint8) {
	f := &m.frames[frame]
	f.owners = slices.DeleteFunc(f.owners, func(owner uint8) bool { return owner == env })
	m.open = slices.DeleteFunc(m.open, func(a api.Asked) bool { return a.Env == env && a.Frame == frame })
	for other := range m.envs {
		for page, at := range m.envs[other].maps {
			if at != nil && at.Frame == frame && (other == int(env) || len(f.owners) == 0) {
				m.unmap(uint8(other), uint8(page))
			}
		}
	}
	if len(f.owners) == 0 {
		m.queue = slices.DeleteFunc(m.queue, func(r api.Request) bool { return r.Frame == int(frame) })
		*f = modelFrame{}
	}
}

func (m *model) end(env uint8) {
	e := m.envs[env]
	for page := range e.maps {
		m.unmap(env, uint8(page))
	}
	for _, c := range m.cores {
		for place := range c.places {
			if c.places[place] == int(env) {
				c.places[place] = -1
			}
		}
		c.penalty[env] = 0
	}
	m.extents = slices.DeleteFunc(m.extents, func(x modelExtent) bool { return x.owner == env })
	m.queue = slices.DeleteFunc(m.queue, func(r api.Request) bool { return r.Owner == env })
	m.open = slices.DeleteFunc(m.open, func(a api.Asked) bool { return a.Env == env })
	*e = modelEnv{entries: e.entries, quota: e.quota}
	for _, frame := range m.had(env) {
		m.events = append(m.events, api.Event{Kind: api.Freed, Env: env, Frame: frame})
		m.letGo(env, frame)
	}
}

// areaUpcall is area.Upcall of one that lives.
func (e *modelEnv) areaUpcall(kind api.UpcallKind, arg api.Word) api.Errno {
	at, comes := e.entries[kind]
	switch {
	case kind >= 5:
		return api.ErrRange
	case !comes:
		return api.ErrNoent
	case len(e.kept) == 4:
		return api.ErrSpace
	}
	e.kept = append(e.kept, e.regs)
	e.regs.Pc, e.regs.R[1], e.regs.R[2] = at, arg, api.Word(kind)
	return api.OK
}

func (m *model) upcall(env uint8, kind api.UpcallKind, arg api.Word) bool {
	if !m.lives(env) {
		return false
	}
	e := m.envs[env].areaUpcall(kind, arg)
	goesOn := e == api.ErrNoent && (kind == api.TimerUp || kind == api.DiskUp || kind == api.RevokeUp)
	if e != api.OK && !goesOn {
		m.end(env)
	}
	return e == api.OK
}

func (m *model) exit(env uint8) api.Errno {
	if !m.lives(env) {
		return api.ErrNoent
	}
	m.end(env)
	return api.OK
}

func (m *model) call(env uint8, kind api.CallKind, x, y, z api.Word) (api.Word, api.Errno) {
	if !m.lives(env) {
		return 0, api.ErrNoent
	}
	e := m.envs[env]
	switch kind {
	case api.AllocCall:
		return 0, m.alloc(env, int(x), int(y))
	case api.FreeCall:
		return 0, m.free(env, int(x))
	case api.MapCall:
		return 0, m.mapPage(env, int(x), int(y), z != 0)
	case api.UnmapCall:
		if x >= 16 {
			return 0, api.ErrRange
		}
		if e.maps[x] == nil {
			return 0, api.ErrNoent
		}
		m.unmap(env, uint8(x))
	case api.GiveCall:
		return m.give(env, int(x), int(y))
	case api.RestrictCall:
		return 0, e.restrict(int(x), int(y), int(z))
	case api.DropCall:
		return 0, m.drop(env, int(x))
	case api.EntryCall:
		if x >= 5 {
			return 0, api.ErrRange
		}
		e.entries[api.UpcallKind(x)] = y
	case api.ReturnCall:
		if len(e.kept) == 0 {
			return 0, api.ErrState
		}
		e.regs = e.kept[len(e.kept)-1]
		e.kept = e.kept[:len(e.kept)-1]
	case api.CallCall:
		if x > 255 || !m.lives(uint8(x)) {
			return 0, api.ErrNoent
		}
		if uint8(x) == env {
			return 0, api.ErrState
		}
		return 0, m.envs[x].areaUpcall(api.CallUp, y)
	case api.YieldCall:
	case api.ReadCall, api.WriteCall:
		return m.ask(env, int(x), int(y), kind == api.WriteCall)
	case api.TimeCall:
		return api.Word(m.time % 65536), api.OK
	case api.SelfCall:
		return api.Word(env), api.OK
	case api.LostCall:
		if len(e.lost) == 0 {
			return 0xffff, api.OK
		}
		first := e.lost[0]
		e.lost = e.lost[1:]
		return api.Word(first), api.OK
	case api.ExitCall:
		m.end(env)
	default:
		return 0, api.ErrRange
	}
	return 0, api.OK
}

// slot is the capability of one of an environment's.
func (e *modelEnv) slot(slot int) (api.Cap, api.Errno) {
	if slot < 0 || slot >= 12 {
		return api.Cap{}, api.ErrRange
	}
	if e.caps[slot].Name == "" {
		return api.Cap{}, api.ErrNoent
	}
	return e.caps[slot], api.OK
}

func (m *model) alloc(env uint8, frame, slot int) api.Errno {
	if frame >= len(m.frames) {
		return api.ErrRange
	}
	c, e := m.envs[env].slot(slot)
	switch {
	case e != api.OK:
		return e
	case len(m.frames[frame].owners) > 0:
		return api.ErrExist
	case len(m.had(env)) >= m.envs[env].quota:
		return api.ErrQuota
	}
	m.frames[frame].owners, m.frames[frame].guard = []uint8{env}, c.Name
	m.events = append(m.events, api.Event{Kind: api.Granted, Env: env, Frame: uint8(frame)})
	return api.OK
}

func (m *model) free(env uint8, frame int) api.Errno {
	if frame >= len(m.frames) {
		return api.ErrRange
	}
	if !slices.Contains(m.frames[frame].owners, env) {
		return api.ErrPerm
	}
	m.events = append(m.events, api.Event{Kind: api.Freed, Env: env, Frame: uint8(frame)})
	m.letGo(env, uint8(frame))
	return api.OK
}

func (m *model) mapPage(env uint8, page, frame int, write bool) api.Errno {
	if page >= 16 || frame >= len(m.frames) {
		return api.ErrRange
	}
	f := m.frames[frame]
	if len(f.owners) == 0 {
		return api.ErrNoent
	}
	if !m.opens(env, f.guard, api.Read) || write && !m.opens(env, f.guard, api.Write) {
		return api.ErrPerm
	}
	m.unmap(env, uint8(page))
	m.envs[env].maps[page] = &api.Mapping{Asid: env, Page: uint8(page), Frame: uint8(frame), Write: write}
	return api.OK
}

func (m *model) give(env uint8, slot, to int) (api.Word, api.Errno) {
	c, e := m.envs[env].slot(slot)
	if e != api.OK {
		return 0, e
	}
	if c.Rights&api.Grant == 0 {
		return 0, api.ErrPerm
	}
	if to >= len(m.envs) || !m.envs[to].alive {
		return 0, api.ErrNoent
	}
	for slot := range 12 {
		if m.envs[to].caps[slot].Name == "" {
			m.envs[to].caps[slot] = c
			return api.Word(slot), api.OK
		}
	}
	return 0, api.ErrSpace
}

func (e *modelEnv) restrict(from, to, rights int) api.Errno {
	if rights > 31 {
		return api.ErrRange
	}
	c, err := e.slot(from)
	switch {
	case err != api.OK:
		return err
	case to >= 12:
		return api.ErrRange
	case e.caps[to].Name != "":
		return api.ErrExist
	}
	e.caps[to] = api.Cap{Name: c.Name, Rights: c.Rights & uint8(rights)}
	return api.OK
}

func (m *model) drop(env uint8, slot int) api.Errno {
	if _, e := m.envs[env].slot(slot); e != api.OK {
		return e
	}
	m.envs[env].caps[slot] = api.Cap{}
	for page, at := range m.envs[env].maps {
		if at == nil {
			continue
		}
		guard := m.frames[at.Frame].guard
		if !m.opens(env, guard, api.Read) || at.Write && !m.opens(env, guard, api.Write) {
			m.unmap(env, uint8(page))
		}
	}
	return api.OK
}

// may tells what stands against a request.
func (m *model) may(env uint8, sector, frame int, write bool) api.Errno {
	owner, ok := m.at(sector)
	if !ok || len(m.frames[frame].owners) == 0 {
		return api.ErrNoent
	}
	ofSector, ofFrame := uint8(api.Read), uint8(api.Write)
	if write {
		ofSector, ofFrame = api.Write, api.Read
	}
	if !m.opens(env, ownName(owner), ofSector) || !m.opens(env, m.frames[frame].guard, ofFrame) {
		return api.ErrPerm
	}
	return api.OK
}

func (m *model) ask(env uint8, sector, frame int, write bool) (api.Word, api.Errno) {
	if sector >= len(m.sectors) || frame >= len(m.frames) {
		return 0, api.ErrRange
	}
	if e := m.may(env, sector, frame, write); e != api.OK {
		return 0, e
	}
	if len(m.queue) >= 8 {
		return 0, api.ErrSpace
	}
	m.last++
	m.queue = append(m.queue, api.Request{Id: m.last, Write: write, Sector: sector, Frame: frame, Owner: env})
	return api.Word(m.last % 65536), api.OK
}

// reach is the mapping by which an address is got at.
func (m *model) reach(core int, env uint8, addr api.Word, wide, write bool) (api.Mapping, api.Errno) {
	switch {
	case !m.lives(env):
		return api.Mapping{}, api.ErrNoent
	case !m.isCore(core) || addr >= 512:
		return api.Mapping{}, api.ErrRange
	case wide && addr%32 == 31:
		return api.Mapping{}, api.ErrFault
	}
	at, c := m.envs[env].maps[addr/32], m.cores[core]
	if at == nil {
		return api.Mapping{}, api.ErrFault
	}
	if !slices.Contains(c.hand, *at) {
		if len(c.hand) == 8 {
			c.hand = slices.Clone(c.hand[1:])
		}
		c.hand = append(c.hand, *at)
	}
	if write && !at.Write {
		return api.Mapping{}, api.ErrFault
	}
	return *at, api.OK
}

func (m *model) load(core int, env uint8, addr api.Word, wide bool) (api.Word, api.Errno) {
	at, e := m.reach(core, env, addr, wide, false)
	if e != api.OK {
		return 0, e
	}
	m.log = append(m.log, api.Noted{Env: env, Frame: at.Frame, Right: api.Read})
	b := m.frames[at.Frame].bytes
	if wide {
		return api.Word(b[addr%32])*256 + api.Word(b[addr%32+1]), api.OK
	}
	return api.Word(b[addr%32]), api.OK
}

func (m *model) store(core int, env uint8, addr, value api.Word, wide bool) api.Errno {
	at, e := m.reach(core, env, addr, wide, true)
	if e != api.OK {
		return e
	}
	m.log = append(m.log, api.Noted{Env: env, Frame: at.Frame, Right: api.Write})
	b := &m.frames[at.Frame].bytes
	if wide {
		b[addr%32], b[addr%32+1] = byte(value>>8), byte(value)
	} else {
		b[addr%32] = byte(value)
	}
	return api.OK
}

func (m *model) revoke(env, frame uint8, within int) api.Errno {
	switch {
	case !m.lives(env):
		return api.ErrNoent
	case int(frame) >= len(m.frames) || !slices.Contains(m.frames[frame].owners, env):
		return api.ErrPerm
	case within < 0 || within > 1000 || m.time > 1<<30:
		return api.ErrRange
	}
	for _, a := range m.open {
		if a.Env == env && a.Frame == frame {
			return api.ErrExist
		}
	}
	if len(m.open) >= 8 {
		return api.ErrSpace
	}
	m.open = append(m.open, api.Asked{Env: env, Frame: frame, Until: m.time + within})
	m.upcall(env, api.RevokeUp, api.Word(frame))
	return api.OK
}

// tick takes one by one, each as soon as it is looked at.
func (m *model) tick() []api.Asked {
	m.time++
	var due []api.Asked
	for _, a := range slices.Clone(m.open) {
		if a.Until > m.time {
			continue
		}
		m.open = slices.DeleteFunc(m.open, func(b api.Asked) bool { return a == b })
		had := m.had(a.Env)
		if !slices.Contains(had, a.Frame) || len(had) <= 2 {
			continue
		}
		due = append(due, a)
		m.envs[a.Env].lost = append(m.envs[a.Env].lost, a.Frame)
		m.events = append(m.events, api.Event{Kind: api.Repossessed, Env: a.Env, Frame: a.Frame})
		m.letGo(a.Env, a.Frame)
	}
	return due
}

func (m *model) deliver(i int) (api.Request, api.Errno) {
	if i < 0 || i >= len(m.queue) {
		return api.Request{}, api.ErrRange
	}
	r := m.queue[i]
	m.queue = slices.Delete(m.queue, i, i+1)
	if !m.lives(r.Owner) || m.may(r.Owner, r.Sector, r.Frame, r.Write) != api.OK {
		return api.Request{}, api.ErrPerm
	}
	right := uint8(api.Write)
	if r.Write {
		right = api.Read
		m.sectors[r.Sector] = m.frames[r.Frame].bytes
	} else {
		m.frames[r.Frame].bytes = m.sectors[r.Sector]
	}
	m.log = append(m.log, api.Noted{Env: r.Owner, Frame: uint8(r.Frame), Right: right})
	m.upcall(r.Owner, api.DiskUp, api.Word(r.Id%65536))
	return r, api.OK
}

func (m *model) turn(core int) (uint8, bool) {
	if !m.isCore(core) {
		return 0, false
	}
	c := m.cores[core]
	for step := 1; step <= 8; step++ {
		place := (c.now + step) % 8
		env := c.places[place]
		if env < 0 {
			continue
		}
		if c.penalty[env] > 0 {
			c.penalty[env]--
			continue
		}
		c.now = place
		return uint8(env), true
	}
	return 0, false
}

func (m *model) over(core int, env uint8, steps int) api.Errno {
	switch {
	case !m.lives(env):
		return api.ErrNoent
	case !m.isCore(core) || steps < 0 || steps > 1000:
		return api.ErrRange
	}
	c := m.cores[core]
	c.penalty[env] = min(1000, c.penalty[env]+max(0, steps-4))
	return api.OK
}

func (m *model) set(env uint8, s api.Regs) api.Errno {
	if !m.lives(env) {
		return api.ErrNoent
	}
	m.envs[env].regs = s
	return api.OK
}
