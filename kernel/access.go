package kernel

import "embrasure/api"

// Load is a word, or a byte, of an environment's address space.
func (k *Kernel) Load(core int, env uint8, addr api.Word, wide bool) (api.Word, api.Errno) {
	frame, off, e := k.reach(core, env, addr, wide, api.Read)
	if e != api.OK {
		return 0, e
	}
	if wide {
		return k.memory.Word(frame, off)
	}
	b, e := k.memory.Byte(frame, off)
	return api.Word(b), e
}

// Store writes a word, or a byte, of an environment's address space.
func (k *Kernel) Store(core int, env uint8, addr, value api.Word, wide bool) api.Errno {
	frame, off, e := k.reach(core, env, addr, wide, api.Write)
	if e != api.OK {
		return e
	}
	if wide {
		return k.memory.SetWord(frame, off, value)
	}
	return k.memory.SetByte(frame, off, byte(value))
}

// reach is where an address lies, and notes that it is got at with a right; or what stands against it.
func (k *Kernel) reach(n int, env uint8, addr api.Word, wide bool, right uint8) (frame, off int, e api.Errno) {
	c, e := k.livingOn(n, env)
	if e != api.OK {
		return 0, 0, e
	}
	if addr >= api.Pages*api.FrameSize {
		return 0, 0, api.ErrRange
	}
	if wide && addr%api.FrameSize == api.FrameSize-1 {
		return 0, 0, api.ErrFault
	}
	k.fetch(c, env, uint8(addr/api.FrameSize))
	frame, off, e = c.hand.Translate(env, addr, right == api.Write)
	if e == api.OK {
		k.note(env, frame, right)
	}
	return frame, off, e
}

// fetch lets an environment's mapping of a page be at hand, if there is one.
func (k *Kernel) fetch(c core, env, page uint8) {
	if _, there := c.hand.Find(env, page); there {
		return
	}
	if m, ok := k.who(env).pages[page]; ok {
		c.hand.Insert(m)
	}
}
