package kernel

import (
	"slices"
	"testing"

	"embrasure/api"
)

// right checks of what a kernel tells what follows from its promises, without the model.
func right(t *testing.T, k *Kernel, frames int) {
	t.Helper()
	var all []api.Mapping
	for env := range uint8(6) {
		all = append(all, k.Maps(env)...)
		if !k.Alive(env) && len(k.Maps(env))+len(k.Slots(env))+len(k.Frames(env))+len(k.Lost(env))+k.Depth(env) > 0 {
			t.Fatal("what ends leaves something", env)
		}
	}
	for core := range k.Cores() {
		all = append(all, k.Tlb(core)...)
	}
	leads := map[uint8]int{}
	for _, m := range all {
		leads[m.Frame]++
		guard, had := k.Guard(m.Frame)
		if !had || !k.Opens(m.Asid, api.Cap{Name: guard.Name, Rights: api.Read}) || m.Write && !k.Opens(m.Asid, api.Cap{Name: guard.Name, Rights: api.Write}) {
			t.Fatal("a mapping whose guard is not opened", m, guard, had)
		}
		if at := slices.IndexFunc(k.Maps(m.Asid), func(n api.Mapping) bool { return n == m }); at < 0 {
			t.Fatal("a mapping at hand that is none", m)
		}
	}
	for _, r := range k.Waiting() {
		leads[uint8(r.Frame)]++
	}
	for frame := range uint8(frames) {
		b, _ := k.Frame(int(frame))
		if _, had := k.Guard(frame); !had && (slices.Max(b) > 0 || leads[frame] > 0) {
			t.Fatal("a frame that nobody has", frame, b, leads[frame])
		}
	}
	ownersByEvents(t, k)
}

// ownersByEvents checks that who has a frame is told by the events alone.
func ownersByEvents(t *testing.T, k *Kernel) {
	t.Helper()
	had := map[[2]uint8]int{}
	for _, e := range k.Events() {
		at := [2]uint8{e.Env, e.Frame}
		switch e.Kind {
		case api.Granted, api.Shared:
			had[at]++
		default:
			had[at]--
		}
	}
	for env := range uint8(6) {
		for frame := range uint8(64) {
			times := 0
			if slices.Contains(k.Frames(env), frame) {
				times = 1
			}
			if had[[2]uint8{env, frame}] != times {
				t.Fatal("events tell otherwise", env, frame, times)
			}
		}
	}
}

// noted checks that what a call added to the log was opened by its environment ahead of the call.
func noted(t *testing.T, before, k *Kernel) {
	t.Helper()
	for _, n := range k.Log()[len(before.Log()):] {
		guard, had := before.Guard(n.Frame)
		if !had || !before.Opens(n.Env, api.Cap{Name: guard.Name, Rights: n.Right}) {
			t.Fatal("an access that was not opened", n)
		}
	}
}

// taken checks that what was asked back until now is not had any more, but for the least frames.
func taken(t *testing.T, before, k *Kernel) {
	t.Helper()
	if k.Time() == before.Time() {
		return
	}
	for _, a := range before.Asked() {
		has := slices.Contains(k.Frames(a.Env), a.Frame)
		if a.Until <= k.Time() && (has && len(k.Frames(a.Env)) > api.MinFrames || slices.Contains(k.Asked(), a)) {
			t.Fatal("what was asked back is had still", a)
		}
		if _, had := k.Guard(a.Frame); a.Until <= k.Time() && !had {
			if b, _ := k.Frame(int(a.Frame)); slices.Max(b) > 0 {
				t.Fatal("what was taken is not 0", a, b)
			}
		}
	}
}

// settle makes an environment that has something of everything; false: there were too many.
func (p *pair) settle(chance func(int) int) bool {
	env, e := p.spawn([]byte{1, 2, 3, byte(chance(256))}, 1+chance(3))
	if e != api.OK {
		return false
	}
	for kind := range api.Word(5) {
		p.call(env, api.EntryCall, kind, kind*4, 0)
	}
	p.extent(env, chance(len(p.m.sectors)), 1+chance(3))
	p.slice(chance(len(p.m.cores)), env, chance(8))
	p.call(env, api.GiveCall, 0, api.Word(p.anyone(chance)), 0)
	return true
}

// TestP16_6To9AnyOrder: in any order of calls the kernel is as its model, and what follows from its promises holds.
func TestP16_6To9AnyOrder(t *testing.T) {
	chance := chances(16)
	did := map[string]int{}
	for round := range 40 {
		frames, sectors, cores := 4+chance(12), 1+chance(8), 1+chance(3)
		if round == 0 {
			frames, sectors, cores = 64, 64, 3
		}
		p := newPair(t, frames, sectors, cores)
		for len(p.m.envs) < 2+chance(2) {
			p.settle(chance)
		}
		for range 400 {
			if len(p.living()) < 2 && !p.settle(chance) {
				break
			}
			before := p.k.Fork()
			what, done := p.play(chance)
			if done {
				did[what]++
			}
			right(t, p.k, frames)
			noted(t, before, p.k)
			taken(t, before, p.k)
			if chance(60) == 0 {
				p = p.fork()
			}
		}
	}
	for _, what := range append(callNames()[1:18], "load", "store", "upcall", "revoke", "tick", "deliver", "spawn", "extent", "slice", "quota", "turn", "over", "set", "exit") {
		if did[what] < 15 {
			t.Error(what, did[what], "is little")
		}
	}
}
