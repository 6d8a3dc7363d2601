package machine

import (
	"encoding/hex"
	"reflect"
	"slices"
	"strconv"
	"strings"
	"testing"

	"embrasure/api"
	"embrasure/cpu"
	"embrasure/kernel"
)

// envView is all that a kernel tells of an environment.
type envView struct {
	alive        bool
	regs         api.Regs
	depth        int
	maps         []api.Mapping
	slots        []int
	caps         []api.Cap
	frames, lost []uint8
}

// kernelView is all that a kernel tells.
type kernelView struct {
	envs              [7]envView
	time, many, cores int
	events            []api.Event
	log               []api.Noted
	asked             []api.Asked
	waiting           []api.Request
	hand              [3][]api.Mapping
	taken             [3][8]bool
	frames, sectors   [64]string
	guards            [64]api.Cap
}

func kernelTells(k *kernel.Kernel) kernelView {
	v := kernelView{time: k.Time(), many: k.Envs(), cores: k.Cores(), events: k.Events(), log: k.Log(), asked: k.Asked(), waiting: k.Waiting()}
	for env := range v.envs {
		n := uint8(env)
		e := envView{alive: k.Alive(n), regs: k.Regs(n), depth: k.Depth(n), maps: k.Maps(n), slots: k.Slots(n), frames: k.Frames(n), lost: k.Lost(n)}
		for _, slot := range e.slots {
			c, _ := k.Cap(n, slot)
			e.caps = append(e.caps, c)
		}
		v.envs[env] = e
	}
	for core := range v.hand {
		v.hand[core] = k.Tlb(core)
		for place := range v.taken[core] {
			v.taken[core][place] = k.Taken(core, place)
		}
	}
	for n := range v.frames {
		b, _ := k.Frame(n)
		s, _ := k.Sector(n)
		v.frames[n], v.sectors[n] = hex.EncodeToString(b), hex.EncodeToString(s)
		v.guards[n], _ = k.Guard(uint8(n))
	}
	return v
}

// coreView is all that a machine tells of a core.
type coreView struct {
	env  uint8
	runs bool
	used int
}

// view is all that a machine tells.
type view struct {
	beneath kernelView
	cores   [6]coreView // from core -1 on
}

func tells(m *Machine) view {
	v := view{beneath: kernelTells(m.Kernel())}
	for n := range v.cores {
		env, runs := m.Running(n - 1)
		v.cores[n] = coreView{env, runs, m.Used(n - 1)}
	}
	return v
}

// alike fails, unless two things are the same.
func alike[T any](t *testing.T, what string, got, want T) {
	t.Helper()
	if !reflect.DeepEqual(got, want) {
		t.Fatalf("%s:\n%+v\nnot\n%+v", what, got, want)
	}
}

// begin is a machine.
func begin(t *testing.T, frames, sectors, cores int) *Machine {
	t.Helper()
	m := New(frames, sectors, cores)
	if m == nil {
		t.Fatal("none")
	}
	return m
}

// put loads a program that can be loaded.
func put(t *testing.T, m *Machine, text string, frames, core, place int) uint8 {
	t.Helper()
	env, line, e := m.Load(text, frames, core, place)
	if line != 0 || e != api.OK {
		t.Fatal("Load", env, line, e)
	}
	return env
}

// alone is a machine of eight frames, two sectors and two cores with one program in it, of two frames.
func alone(t *testing.T, text string) *Machine {
	t.Helper()
	m := begin(t, 8, 2, 2)
	put(t, m, text, 2, 0, 0)
	return m
}

// raw is alone, of any bytes.
func raw(t *testing.T, code ...byte) *Machine {
	t.Helper()
	m := begin(t, 8, 2, 2)
	env, e := m.Kernel().Spawn(code, 2)
	if e != api.OK || m.Kernel().Slice(0, env, 0) != api.OK {
		t.Fatal(e)
	}
	return m
}

// step is a step of a core that there is.
func step(t *testing.T, m *Machine, core int) api.Step {
	t.Helper()
	s, e := m.Step(core)
	if e != api.OK {
		t.Fatal("Step", core, s, e)
	}
	return s
}

// steps are some of a core, of which all but the last one are left out.
func steps(t *testing.T, m *Machine, core, many int) api.Step {
	t.Helper()
	var s api.Step
	for range many {
		s = step(t, m, core)
	}
	return s
}

// envs are those that so many steps of a core are of; -1 of an idle one.
func envs(t *testing.T, m *Machine, core, many int) []int {
	t.Helper()
	var l []int
	for range many {
		s := step(t, m, core)
		if s.Kind == api.Idle {
			l = append(l, -1)
		} else {
			l = append(l, int(s.Env))
		}
	}
	return l
}

// times is a list with numbers, each so many times: a number, how many times, and so on.
func times(l ...int) []int {
	var all []int
	for k := 0; k < len(l); k += 2 {
		all = append(all, slices.Repeat([]int{l[k]}, l[k+1])...)
	}
	return all
}

// runs fails, unless a core runs an environment that had so many steps.
func runs(t *testing.T, m *Machine, core int, env uint8, used int) {
	t.Helper()
	if got, ok := m.Running(core); got != env || !ok || m.Used(core) != used {
		t.Fatal("core", core, "runs", got, ok, m.Used(core), "not", env, used)
	}
}

// rests fails, unless a core runs none.
func rests(t *testing.T, m *Machine, core int) {
	t.Helper()
	if env, ok := m.Running(core); env != 0 || ok || m.Used(core) != 0 {
		t.Fatal("core", core, "runs", env, ok, m.Used(core))
	}
}

// gone fails, unless an environment left nothing.
func gone(t *testing.T, m *Machine, env uint8) {
	t.Helper()
	got := kernelTells(m.Kernel()).envs[env]
	if got.alive || got.regs != (api.Regs{}) || got.depth+len(got.maps)+len(got.slots)+len(got.frames)+len(got.lost) > 0 {
		t.Fatal("what ended leaves", env, got)
	}
	for frame := range 64 {
		b, _ := m.Kernel().Frame(frame)
		if _, had := m.Kernel().Guard(uint8(frame)); !had && len(b) > 0 && slices.Max(b) > 0 {
			t.Fatal("what ended leaves", frame, b)
		}
	}
	for core := range m.Kernel().Cores() {
		for _, at := range m.Kernel().Tlb(core) {
			if at.Asid == env {
				t.Fatal("what ended leaves", at)
			}
		}
	}
}

// chances are numbers that look like chance, and are the same each time.
func chances(seed uint32) func(int) int {
	return func(n int) int {
		seed = seed*1664525 + 1013904223
		return int(seed>>8) % n
	}
}

// inside are an environment's registers, and the bytes of its pages, as a text.
func inside(m *Machine, env uint8) string {
	var text strings.Builder
	text.WriteString(cpu.Print(m.Kernel().Regs(env)))
	for _, at := range m.Kernel().Maps(env) {
		b, _ := m.Kernel().Frame(int(at.Frame))
		text.WriteString(" " + strconv.Itoa(int(at.Page)) + ":" + hex.EncodeToString(b))
	}
	return text.String()
}
