package kernel

import (
	"maps"
	"strconv"

	"embrasure/api"
	"embrasure/area"
	"embrasure/caps"
	"embrasure/name"
)

// environment is one: its area and its capabilities are inside of it; its mappings are told by their pages.
type environment struct {
	*area.Area
	*caps.Table
	pages map[uint8]api.Mapping
}

// folk are the environments that were made, by their numbers.
type folk []*environment

// own is an environment's own name, with rights.
func own(env uint8, rights uint8) api.Cap {
	// A number of one digit makes a label: there are no names that cannot be.
	n, _ := name.Join("e" + strconv.Itoa(int(env)))
	return api.Cap{Name: n, Rights: rights}
}

// born is the number of an environment that is made: its registers are 0, it has its own name, and no frames.
func (f *folk) born() uint8 {
	env := uint8(len(*f))
	who := &environment{Area: area.New(api.Regs{}), Table: caps.New(), pages: map[uint8]api.Mapping{}}
	who.Put(0, own(env, api.AllRights))
	*f = append(*f, who)
	return env
}

// who is an environment; of no such one that does not live, and has nothing.
func (f folk) who(env uint8) *environment {
	if int(env) >= len(f) {
		return &environment{}
	}
	return f[env]
}

// unmap takes out those mappings that gone tells.
func (f folk) unmap(gone func(api.Mapping) bool) {
	for _, who := range f {
		maps.DeleteFunc(who.pages, func(_ uint8, m api.Mapping) bool { return gone(m) })
	}
}

// another is folk with the same.
func (f folk) another() folk {
	var l folk
	for _, who := range f {
		l = append(l, &environment{Area: who.Area.Fork(), Table: who.Table.Fork(), pages: maps.Clone(who.pages)})
	}
	return l
}

// lay maps a page.
func (who *environment) lay(m api.Mapping) {
	who.pages[m.Page] = m
}

// mapped are its mappings, by their pages.
func (who *environment) mapped() []api.Mapping {
	var l []api.Mapping
	for page := range uint8(api.Pages) {
		if m, ok := who.pages[page]; ok {
			l = append(l, m)
		}
	}
	return l
}

// die lets it live no more, without capabilities: all lie below the name without labels.
func (who *environment) die() {
	who.Kill()
	who.Revoke("/")
}
