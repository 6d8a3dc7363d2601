package kernel

import (
	"slices"

	"embrasure/api"
)

// Regs are an environment's registers.
func (k *Kernel) Regs(env uint8) api.Regs {
	return k.inside().who(env).Regs()
}

// Alive tells whether an environment lives.
func (k *Kernel) Alive(env uint8) bool {
	return k.inside().who(env).Alive()
}

// Depth is how many upcalls an environment is in.
func (k *Kernel) Depth(env uint8) int {
	return k.inside().who(env).Depth()
}

// Maps are an environment's mappings, by their pages.
func (k *Kernel) Maps(env uint8) []api.Mapping {
	return k.inside().who(env).mapped()
}

// Slots are those of an environment with a capability.
func (k *Kernel) Slots(env uint8) []int {
	return k.inside().who(env).Slots()
}

// Cap is the capability of an environment's slot.
func (k *Kernel) Cap(env uint8, slot int) (api.Cap, api.Errno) {
	if k != nil && int(env) >= len(k.folk) {
		return api.Cap{}, api.ErrRange
	}
	return k.inside().who(env).Get(slot)
}

// Opens tells whether an environment opens a guard.
func (k *Kernel) Opens(env uint8, guard api.Cap) bool {
	return k.inside().who(env).Opens(guard)
}

// Frames are those that an environment has.
func (k *Kernel) Frames(env uint8) []uint8 {
	return k.inside().pool.Frames(env)
}

// Guard is a frame's; false: nobody has it.
func (k *Kernel) Guard(frame uint8) (api.Cap, bool) {
	return k.inside().pool.Guard(frame)
}

// Tlb are the mappings at hand of a core, as they were taken in.
func (k *Kernel) Tlb(core int) []api.Mapping {
	c, _ := k.inside().core(core)
	return c.hand.List()
}

// Frame are a frame's bytes.
func (k *Kernel) Frame(frame int) ([]byte, api.Errno) {
	return k.inside().memory.Frame(frame)
}

// Sector are a sector's bytes.
func (k *Kernel) Sector(i int) ([]byte, api.Errno) {
	return k.inside().disk.Sector(i)
}

// Events are what became of frames, as it was.
func (k *Kernel) Events() []api.Event {
	return k.inside().pool.Events()
}

// Log are the accesses of frames, as they were made.
func (k *Kernel) Log() []api.Noted {
	return slices.Clone(k.inside().log)
}

// Time is how many ticks there were.
func (k *Kernel) Time() int {
	return k.inside().time
}

// Asked are the frames that are asked back, as they were asked.
func (k *Kernel) Asked() []api.Asked {
	return k.inside().book.Open()
}

// Lost are the frames that were taken from an environment, as far as it was not told so.
func (k *Kernel) Lost(env uint8) []uint8 {
	return k.inside().book.Lost(env)
}

// Waiting are the requests of the disk, as they were taken in.
func (k *Kernel) Waiting() []api.Request {
	return k.inside().disk.Waiting()
}

// Cores is how many there are.
func (k *Kernel) Cores() int {
	return len(k.inside().cores)
}

// Taken tells whether a place of a core's slices is somebody's.
func (k *Kernel) Taken(core, place int) bool {
	c, _ := k.inside().core(core)
	_, taken := c.turns.At(place)
	return taken
}

// Envs is how many environments were made.
func (k *Kernel) Envs() int {
	return len(k.inside().folk)
}
