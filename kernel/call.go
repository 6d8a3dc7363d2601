package kernel

import "embrasure/api"

// empty is what LostCall answers of a vector without frames.
const empty = 0xffff

// Call does a call of an environment.
func (k *Kernel) Call(env uint8, kind api.CallKind, x, y, z api.Word) (api.Word, api.Errno) {
	if e := k.living(env); e != api.OK {
		return 0, e
	}
	who, write := k.who(env), false
	switch kind {
	case api.AllocCall:
		return 0, k.alloc(env, x, y)
	case api.FreeCall:
		return 0, k.freeFrame(env, x)
	case api.MapCall:
		return 0, k.mapPage(env, x, y, z != 0)
	case api.UnmapCall:
		return 0, k.unmapPage(env, x)
	case api.GiveCall:
		return k.give(who, x, y)
	case api.RestrictCall:
		return 0, who.restrict(x, y, z)
	case api.DropCall:
		return 0, k.drop(env, x)
	case api.EntryCall:
		return 0, who.enter(x, y)
	case api.ReturnCall:
		return 0, who.Return()
	case api.CallCall:
		return 0, k.callUp(env, x, y)
	case api.WriteCall:
		write = true
		fallthrough
	case api.ReadCall:
		return k.ask(env, x, y, write)
	case api.TimeCall:
		return api.Word(k.time), api.OK
	case api.SelfCall:
		return api.Word(env), api.OK
	case api.LostCall:
		return k.lost(env), api.OK
	case api.ExitCall:
		k.end(env)
		fallthrough
	case api.YieldCall:
		return 0, api.OK
	}
	return 0, api.ErrRange
}

// alloc gives an environment a frame, guarded by the name of one of its capabilities.
func (k *Kernel) alloc(env uint8, x, slot api.Word) api.Errno {
	frame, ok := k.frame(x)
	if !ok {
		return api.ErrRange
	}
	c, e := k.who(env).Get(int(slot))
	if e != api.OK {
		return e
	}
	return k.pool.Grant(env, frame, with(c, 0))
}

func (k *Kernel) freeFrame(env uint8, x api.Word) api.Errno {
	frame, ok := k.frame(x)
	if !ok {
		return api.ErrRange
	}
	nobody, e := k.pool.Free(env, frame)
	if e == api.OK {
		k.letGo(env, frame, nobody)
	}
	return e
}

func (k *Kernel) mapPage(env uint8, page, y api.Word, write bool) api.Errno {
	frame, ok := k.frame(y)
	if !ok || page >= api.Pages {
		return api.ErrRange
	}
	if _, had := k.pool.Guard(frame); !had {
		return api.ErrNoent
	}
	m := api.Mapping{Asid: env, Page: uint8(page), Frame: frame, Write: write}
	if !k.allows(m) {
		return api.ErrPerm
	}
	k.unmap(of(env, m.Page))
	k.who(env).lay(m)
	return api.OK
}

func (k *Kernel) unmapPage(env uint8, page api.Word) api.Errno {
	if page >= api.Pages {
		return api.ErrRange
	}
	if _, ok := k.who(env).pages[uint8(page)]; !ok {
		return api.ErrNoent
	}
	k.unmap(of(env, uint8(page)))
	return api.OK
}

// of tells whether a mapping is that of an environment's page.
func of(env, page uint8) func(api.Mapping) bool {
	return func(m api.Mapping) bool { return m.Asid == env && m.Page == page }
}

// give lays a capability of one environment into the first free slot of another one, which it answers.
func (k *Kernel) give(who *environment, slot, to api.Word) (api.Word, api.Errno) {
	c, e := who.Get(int(slot))
	if e != api.OK {
		return 0, e
	}
	if c.Rights&api.Grant == 0 {
		return 0, api.ErrPerm
	}
	other, ok := k.alive(to)
	if !ok {
		return 0, api.ErrNoent
	}
	room, e := other.Room()
	if e != api.OK {
		return 0, e
	}
	return api.Word(room), other.Put(room, c)
}

// alive is the environment that a word tells; false: none lives.
func (f folk) alive(w api.Word) (*environment, bool) {
	if int(w) >= len(f) || !f[w].Alive() {
		return nil, false
	}
	return f[w], true
}

func (who *environment) restrict(from, to, rights api.Word) api.Errno {
	if rights > api.AllRights {
		return api.ErrRange
	}
	return who.Restrict(int(from), int(to), uint8(rights))
}

func (k *Kernel) drop(env uint8, slot api.Word) api.Errno {
	e := k.who(env).Drop(int(slot))
	if e == api.OK {
		k.lookAgain(env)
	}
	return e
}

func (who *environment) enter(kind, at api.Word) api.Errno {
	if kind >= api.Word(api.Upcalls) {
		return api.ErrRange
	}
	return who.Entry(api.UpcallKind(kind), at)
}

// callUp calls another environment up; neither ends, if that cannot be.
func (k *Kernel) callUp(env uint8, x, arg api.Word) api.Errno {
	other, ok := k.alive(x)
	if !ok {
		return api.ErrNoent
	}
	if x == api.Word(env) {
		return api.ErrState
	}
	return other.Upcall(api.CallUp, arg)
}

// ask asks the disk for a request of an environment, and answers its number.
func (k *Kernel) ask(env uint8, sector, y api.Word, write bool) (api.Word, api.Errno) {
	frame, ok := k.frame(y)
	if !ok || int(sector) >= k.disk.Size() {
		return 0, api.ErrRange
	}
	r := api.Request{Write: write, Sector: int(sector), Frame: int(frame), Owner: env}
	if e := k.may(r); e != api.OK {
		return 0, e
	}
	id, e := k.disk.Ask(r)
	return api.Word(id), e
}

// lost is the next frame of an environment's vector.
func (k *Kernel) lost(env uint8) api.Word {
	frame, ok := k.book.Next(env)
	if !ok {
		return empty
	}
	return api.Word(frame)
}
