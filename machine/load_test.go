package machine

import (
	"math"
	"strings"
	"testing"

	"embrasure/api"
	"embrasure/asm"
	"embrasure/kernel"
)

// outside are numbers that are none of anything.
func outside() []int {
	return []int{-1, -2, math.MinInt, 64, 65, 256, 1<<16 + 1, 1<<32 + 1, math.MaxInt}
}

func TestP17_1New(t *testing.T) {
	for _, frames := range []int{1, 2, 63, 64} {
		for _, sectors := range []int{1, 63, 64} {
			for cores := 1; cores <= 3; cores++ {
				m := begin(t, frames, sectors, cores)
				alike(t, "a new one", kernelTells(m.Kernel()), kernelTells(kernel.New(frames, sectors, cores)))
				for core := -1; core <= 4; core++ {
					rests(t, m, core)
				}
			}
		}
	}
	for _, n := range []int{0, -1, math.MinInt, 65, 66, 1<<32 + 1, math.MaxInt} {
		if New(n, 4, 1) != nil || New(4, n, 1) != nil || New(4, 4, n) != nil || New(n, n, n) != nil {
			t.Error(n)
		}
	}
	if New(4, 4, 4) != nil || New(64, 64, 4) != nil {
		t.Error("four cores")
	}
}

// refused is a Load that has an error, and changes nothing.
func refused(t *testing.T, m *Machine, want api.Errno, line int, text string, frames, core, place int) {
	t.Helper()
	was := tells(m)
	if env, l, e := m.Load(text, frames, core, place); env != 0 || l != line || e != want {
		t.Fatal("Load", env, l, e, "not", line, want)
	}
	alike(t, "refused", tells(m), was)
}

// TestP17_1Load: what Spawn makes of the code, and the place; the environments' numbers and frames rise.
func TestP17_1Load(t *testing.T) {
	m, k := begin(t, 64, 1, 3), kernel.New(64, 1, 3)
	text := "loop: ; for ever\n\tli r1 'a'\n\n jmp loop"
	for n, at := range [][3]int{{1, 0, 0}, {16, 2, 7}, {15, 1, 7}, {2, 0, 7}, {3, 0, 3}} {
		env, line, e := m.Load(text, at[0], at[1], at[2])
		if int(env) != n || line != 0 || e != api.OK {
			t.Fatal(n, env, line, e)
		}
		code, _, _ := asm.Assemble(text)
		k.Spawn(code, at[0])
		k.Slice(at[1], env, at[2])
		alike(t, "a load", kernelTells(m.Kernel()), kernelTells(k))
		rests(t, m, at[1])
	}
	if got := envs(t, m, 2, 7); got[0] != 1 || got[6] != 1 {
		t.Error(got)
	}
	if got := envs(t, m, 1, 1); got[0] != 2 {
		t.Error(got)
	}
	alike(t, "turns", envs(t, m, 0, 24), times(0, 6, 4, 6, 3, 6, 0, 6))
}

// TestP17_1LoadNothing: an empty program can be loaded: its bytes are 0, which do nothing.
func TestP17_1LoadNothing(t *testing.T) {
	for _, text := range []string{"", "\n", "; none", "end:"} {
		m := begin(t, 8, 2, 2)
		put(t, m, text, 1, 0, 0)
		for range 8 {
			if s := step(t, m, 0); s != (api.Step{Kind: api.Ran}) {
				t.Fatal(s)
			}
		}
		if s := step(t, m, 0); s != (api.Step{Kind: api.Faulted, Word: 32}) {
			t.Fatal(s)
		}
	}
}

// TestP17_1LoadText: a text that does not assemble, with its line, ahead of all others.
func TestP17_1LoadText(t *testing.T) {
	m := begin(t, 8, 2, 2)
	put(t, m, "nop", 2, 0, 0)
	for _, c := range []struct {
		text string
		line int
		want api.Errno
	}{
		{"foo", 1, api.ErrForm},
		{"nop\nfoo", 2, api.ErrForm},
		{"nop\n\n; remark\nli r8 1", 4, api.ErrForm},
		{"nop\n\njmp end", 3, api.ErrNoent},
		{"end:\nnop\nend:", 3, api.ErrExist},
		{"9:", 1, api.ErrForm},
		{strings.Repeat("nop\n", 97), 97, api.ErrSpace},
		{"\xff", 1, api.ErrForm},
		{"li r1 65536", 1, api.ErrForm},
		{"foo\nbar", 1, api.ErrForm},
	} {
		refused(t, m, c.want, c.line, c.text, 2, 0, 1)
		refused(t, m, c.want, c.line, c.text, 0, -1, -1)
		refused(t, m, c.want, c.line, c.text, 99, 0, 0)
	}
	put(t, begin(t, 16, 2, 2), strings.Repeat("nop\n", 96), 12, 0, 0)
}

// TestP17_1LoadPlace: no such core, no such place, a place that is somebody's, in this order, ahead of what Spawn refuses.
func TestP17_1LoadPlace(t *testing.T) {
	m := begin(t, 8, 2, 2)
	put(t, m, "nop", 2, 1, 7)
	put(t, m, "nop", 2, 0, 0)
	for _, frames := range []int{2, 0, 17, 16} {
		for _, core := range append(outside(), 2, 3) {
			refused(t, m, api.ErrRange, 0, "nop", frames, core, 1)
			refused(t, m, api.ErrRange, 0, "nop", frames, core, 0)
			refused(t, m, api.ErrRange, 0, "nop", frames, core, -1)
		}
		for _, place := range append(outside(), 8, 9) {
			refused(t, m, api.ErrRange, 0, "nop", frames, 0, place)
			refused(t, m, api.ErrRange, 0, "nop", frames, 1, place)
		}
		refused(t, m, api.ErrExist, 0, "nop", frames, 1, 7)
		refused(t, m, api.ErrExist, 0, "nop", frames, 0, 0)
	}
	put(t, m, "nop", 1, 0, 7)
	put(t, m, "nop", 1, 1, 0)
}

// TestP17_1LoadPlaceAgain: a place whose environment ended is nobody's.
func TestP17_1LoadPlaceAgain(t *testing.T) {
	m := begin(t, 8, 2, 2)
	put(t, m, "halt", 2, 0, 0)
	refused(t, m, api.ErrExist, 0, "nop", 2, 0, 0)
	step(t, m, 0)
	if env := put(t, m, "nop", 2, 0, 0); env != 1 {
		t.Error(env)
	}
	if e := m.Kernel().Slice(0, 1, 5); e != api.OK {
		t.Error(e)
	}
	refused(t, m, api.ErrExist, 0, "nop", 2, 0, 5)
}

// TestP17_1LoadFrames: frames from 1 to Pages, as many as the code needs, and as are free.
func TestP17_1LoadFrames(t *testing.T) {
	nine := strings.Repeat("nop\n", 9)
	m := begin(t, 20, 2, 1)
	for _, frames := range append(outside(), 0, 17) {
		refused(t, m, api.ErrRange, 0, "nop", frames, 0, 0)
	}
	refused(t, m, api.ErrRange, 0, nine, 1, 0, 0)
	put(t, m, nine, 2, 0, 0)
	put(t, m, nine[4:], 1, 0, 1)
	put(t, m, nine, 16, 0, 2)
	refused(t, m, api.ErrSpace, 0, "nop", 2, 0, 3)
	refused(t, m, api.ErrSpace, 0, nine, 16, 0, 3)
	refused(t, m, api.ErrRange, 0, nine, 1, 0, 3)
	put(t, m, "nop", 1, 0, 3)
	refused(t, m, api.ErrSpace, 0, "nop", 1, 0, 4)
	refused(t, m, api.ErrRange, 0, "nop", 0, 0, 4)
}

// TestP17_1LoadMaxEnvs: a sixth environment can be, a seventh not, though all of them ended.
func TestP17_1LoadMaxEnvs(t *testing.T) {
	m := begin(t, 64, 2, 1)
	for n := range 6 {
		if env := put(t, m, "halt", 1, 0, n); int(env) != n {
			t.Fatal(n, env)
		}
	}
	refused(t, m, api.ErrSpace, 0, "halt", 1, 0, 6)
	refused(t, m, api.ErrRange, 0, "halt", 0, 0, 6)
	refused(t, m, api.ErrExist, 0, "halt", 1, 0, 5)
	steps(t, m, 0, 6)
	if s := step(t, m, 0); s != (api.Step{}) {
		t.Fatal(s)
	}
	refused(t, m, api.ErrSpace, 0, "halt", 1, 0, 0)
}
