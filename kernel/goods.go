package kernel

import (
	"embrasure/api"
	"embrasure/dev"
	"embrasure/extent"
	"embrasure/mem"
	"embrasure/pool"
	"embrasure/revoke"
)

// goods are what is given out: frames, and who has them or is asked for them; sectors, and who has these.
type goods struct {
	memory  *mem.Memory
	pool    *pool.Pool
	book    *revoke.Book
	disk    *dev.Disk
	extents *extent.Table
}

// stock is so many frames and sectors that nobody has; false: it may not be.
func stock(frames, sectors int) (goods, bool) {
	g := goods{memory: mem.New(frames), pool: pool.New(frames), book: revoke.New(), disk: dev.New(sectors), extents: extent.New(sectors)}
	return g, g.memory != nil && g.disk != nil
}

// frame is the frame that a word tells; false: there is no such.
func (g goods) frame(w api.Word) (uint8, bool) {
	if int(w) >= g.memory.Size() {
		return 0, false
	}
	return uint8(w), true
}

// refuse takes a request out that is not to be done. The disk parts with a single one only by doing it: it does it with a memory of its own, whose frame has the sector's bytes, so that neither a frame nor the sector becomes another one.
func (g goods) refuse(i int, r api.Request) {
	sector, _ := g.disk.Sector(r.Sector)
	scratch := mem.New(api.MaxFrames)
	scratch.Fill(r.Frame, 0, sector...)
	g.disk.Deliver(i, scratch)
}

// freeSectors frees all extents of an environment.
func (g goods) freeSectors(env uint8) {
	for _, id := range g.extents.Owned(env) {
		g.extents.Free(env, id)
	}
}

// another is goods with the same.
func (g goods) another() goods {
	return goods{memory: g.memory.Fork(), pool: g.pool.Fork(), book: g.book.Fork(), disk: g.disk.Fork(), extents: g.extents.Fork()}
}

// need is which rights a request asks for, of the sector's guard and of the frame's.
type need struct {
	sector, frame uint8
}

// rights are those that a request asks for: what is read of the one is written to the other.
func rights(r api.Request) need {
	if r.Write {
		return need{sector: api.Write, frame: api.Read}
	}
	return need{sector: api.Read, frame: api.Write}
}

// with is a guard with a right.
func with(guard api.Cap, right uint8) api.Cap {
	return api.Cap{Name: guard.Name, Rights: right}
}
