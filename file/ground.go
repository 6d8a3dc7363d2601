package file

import (
	"embrasure/api"
	"embrasure/dev"
	"embrasure/extent"
)

// keeper has all extents: which of its files has a sector is told by the store, not by the ground.
const keeper = 0

// ground are sectors: inside of it are the disk with their bytes, and the table that tells which of them are bound. Each is an extent of its own, for a file's sectors need not lie side by side; all files together need fewer than there may be. A sector that is not bound is 0.
type ground struct {
	*dev.Disk
	*extent.Table
}

// lay is so many sectors, none of them bound; false: they may not be.
func lay(sectors int) (ground, bool) {
	g := ground{Disk: dev.New(sectors), Table: extent.New(sectors)}
	return g, g.Disk != nil && g.Table != nil
}

// bind takes the next sector, of which the caller knows that there is one.
func (g ground) bind() int {
	sector, _ := g.Room(1)
	g.Alloc(keeper, sector, 1, api.Cap{Name: "/"})
	return sector
}

// loose frees sectors, and leaves nothing there to whom they are given next.
func (g ground) loose(sectors []int) {
	for _, sector := range sectors {
		x, _ := g.At(sector)
		g.Free(keeper, x.Id)
		g.Set(sector, make([]byte, api.FrameSize))
	}
}

// put writes over sectors that lie one behind the other, from an offset on.
func (g ground) put(sectors []int, off int, data string) {
	for data != "" {
		sector := sectors[off/api.FrameSize]
		b, _ := g.Sector(sector)
		many := copy(b[off%api.FrameSize:], data)
		g.Set(sector, b)
		off, data = off+many, data[many:]
	}
}

// text is what stands in sectors one behind the other.
func (g ground) text(sectors []int) string {
	var all []byte
	for _, sector := range sectors {
		b, _ := g.Sector(sector)
		all = append(all, b...)
	}
	return string(all)
}

// another is ground with the same.
func (g ground) another() ground {
	return ground{Disk: g.Disk.Fork(), Table: g.Table.Fork()}
}
