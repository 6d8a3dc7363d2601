package proc

import (
	"math"
	"slices"
	"testing"

	"embrasure/api"
)

// forked is a table with processes forked one behind the other.
func forked(t *testing.T, pids ...int) *Table {
	t.Helper()
	d := New()
	for _, pid := range pids {
		if _, e := d.Fork(pid); e != api.OK {
			t.Fatal("Fork", pid, e)
		}
	}
	return d
}

// ended ends some, with 10 times their numbers.
func ended(t *testing.T, d *Table, pids ...int) *Table {
	t.Helper()
	for _, pid := range pids {
		if e := d.Exit(pid, 10*pid); e != api.OK {
			t.Fatal("Exit", pid, e)
		}
	}
	return d
}

// waits waits, and holds the answer against what is asked for.
func waits(t *testing.T, d *Table, pid, child, status int, wanted api.Errno) {
	t.Helper()
	if n, s, e := d.Wait(pid); n != child || s != status || e != wanted {
		t.Errorf("Wait %d: %d %d %d, not %d %d %d", pid, n, s, e, child, status, wanted)
	}
}

// gives forks, and holds the answer against what is asked for.
func gives(t *testing.T, d *Table, pid, child int, wanted api.Errno) {
	t.Helper()
	if n, e := d.Fork(pid); n != child || e != wanted {
		t.Errorf("Fork %d: %d %d, not %d %d", pid, n, e, child, wanted)
	}
}

// alike holds lists against each other.
func alike(t *testing.T, what string, got []int, want ...int) {
	t.Helper()
	if !slices.Equal(got, want) {
		t.Error(what, got, "not", want)
	}
}

func TestP23_1Example(t *testing.T) {
	d := New()
	gives(t, d, 0, 1, api.OK)
	if e := d.Exit(1, 5); e != api.OK {
		t.Error(e)
	}
	waits(t, d, 0, 1, 5, api.OK)
}

// TestP23_1New: 0 runs, alone, its own parent and nobody's child.
func TestP23_1New(t *testing.T) {
	d := New()
	if d == nil || d == New() {
		t.Fatal("no table of its own")
	}
	if d.State(0) != api.Running || d.Parent(0) != 0 || d.Status(0) != 0 {
		t.Error(d.State(0), d.Parent(0), d.Status(0))
	}
	alike(t, "Children", d.Children(0))
	alike(t, "Running", d.Running(), 0)
	for pid := 1; pid <= api.MaxProcs; pid++ {
		if d.State(pid) != api.NoProc || d.Parent(pid) != -1 {
			t.Error(pid, d.State(pid), d.Parent(pid))
		}
	}
}

// TestP1Nil: a nil table answers ErrNil, whatever it is asked, and else none.
func TestP1Nil(t *testing.T) {
	var d *Table
	for _, pid := range append(none(), 0, 1, 5) {
		gives(t, d, pid, 0, api.ErrNil)
		waits(t, d, pid, 0, 0, api.ErrNil)
		if d.Exit(pid, 3) != api.ErrNil || d.Kill(pid) != api.ErrNil {
			t.Error(pid)
		}
		if d.State(pid) != api.NoProc || d.Parent(pid) != -1 || d.Status(pid) != 0 || len(d.Children(pid)) != 0 {
			t.Error(pid, d.State(pid), d.Parent(pid), d.Status(pid), d.Children(pid))
		}
	}
	if len(d.Running()) != 0 || d.Copy() != nil {
		t.Error("something of nil")
	}
}

// TestP23_1Noent: whoever does not run is refused first: numbers that are none, one that there is not, a Zombie, also of a full table.
func TestP23_1Noent(t *testing.T) {
	full := ended(t, forked(t, 0, 0, 0, 0, 0), 5)
	some := ended(t, forked(t, 0, 1), 1)
	for _, c := range []struct {
		d    *Table
		pids []int
	}{{New(), append(none(), 1, 5)}, {some, append(none(), 1, 3, 5)}, {full, append(none(), 5)}} {
		was := *c.d
		for _, pid := range c.pids {
			gives(t, c.d, pid, 0, api.ErrNoent)
			waits(t, c.d, pid, 0, 0, api.ErrNoent)
			if a, b := c.d.Exit(pid, 4), c.d.Kill(pid); a != api.ErrNoent || b != api.ErrNoent {
				t.Error(pid, a, b)
			}
		}
		if *c.d != was {
			t.Error("changed", *c.d, was)
		}
	}
}

// TestP23_1Runs: each that runs may be asked, up to the last number.
func TestP23_1Runs(t *testing.T) {
	d := forked(t, 0, 1, 2, 3, 4)
	for pid := range 6 {
		if d.State(pid) != api.Running {
			t.Error(pid, d.State(pid))
		}
	}
	waits(t, d, 5, 0, 0, api.ErrForm)
	waits(t, d, 4, 0, 0, api.ErrAgain)
	if d.Exit(5, 1) != api.OK {
		t.Error("Exit 5")
	}
	waits(t, d, 4, 5, 1, api.OK)
	gives(t, d, 3, 5, api.OK)
	if d.Kill(5) != api.OK || d.Parent(5) != 3 {
		t.Error("Kill 5", d.Parent(5))
	}
}

// TestP23_1Fork: the least number that is none; a Zombie's is not, until it is waited for.
func TestP23_1Fork(t *testing.T) {
	d := New()
	for n := 1; n <= 5; n++ {
		gives(t, d, n-1, n, api.OK)
		if d.Parent(n) != n-1 || d.State(n) != api.Running {
			t.Error(n, d.Parent(n), d.State(n))
		}
	}
	gives(t, d, 0, 0, api.ErrAgain)
	gives(t, d, 5, 0, api.ErrAgain)
	ended(t, d, 2, 4)
	alike(t, "Running", d.Running(), 0, 1, 3, 5)
	gives(t, d, 3, 0, api.ErrAgain)
	waits(t, d, 3, 4, 40, api.OK)
	gives(t, d, 5, 4, api.OK)
	gives(t, d, 5, 0, api.ErrAgain)
	waits(t, d, 1, 2, 20, api.OK)
	gives(t, d, 3, 2, api.OK)
	if d.Parent(2) != 3 || d.Parent(4) != 5 {
		t.Error(d.Parent(2), d.Parent(4))
	}
	alike(t, "Children", d.Children(0), 1, 3, 5)
}

// TestP23_1Full: with one number left it is given, and the next one is refused; nothing changes then. Zombies count.
func TestP23_1Full(t *testing.T) {
	d := ended(t, forked(t, 0, 0, 0, 0), 1, 2, 3, 4)
	gives(t, d, 0, 5, api.OK)
	was := *d
	gives(t, d, 0, 0, api.ErrAgain)
	gives(t, d, 5, 0, api.ErrAgain)
	if *d != was {
		t.Error("changed")
	}
}

// TestP23_1ExitOf0: 0 does not end, whether it has children or none; whoever there is not has ErrNoent.
func TestP23_1ExitOf0(t *testing.T) {
	for _, d := range []*Table{New(), forked(t, 0, 1), ended(t, forked(t, 0), 1), forked(t, 0, 0, 0, 0, 0)} {
		was := *d
		for _, status := range []int{0, 1, -1, api.Killed} {
			if e := d.Exit(0, status); e != api.ErrPerm {
				t.Error(status, e)
			}
		}
		if e := d.Kill(0); e != api.ErrPerm || *d != was {
			t.Error(e, *d, was)
		}
	}
}

// TestP23_1Exit: a Zombie has its parent and its status; its children, those that run and Zombies, are 0's.
func TestP23_1Exit(t *testing.T) {
	for _, end := range []struct {
		status int
		by     func(*Table) api.Errno
	}{
		{7, func(d *Table) api.Errno { return d.Exit(2, 7) }},
		{api.Killed, func(d *Table) api.Errno { return d.Kill(2) }},
	} {
		d := ended(t, forked(t, 0, 1, 2, 2, 3), 4)
		if e := end.by(d); e != api.OK {
			t.Error(e)
		}
		if d.State(2) != api.Zombie || d.Parent(2) != 1 || d.Status(2) != end.status {
			t.Error(d.State(2), d.Parent(2), d.Status(2))
		}
		alike(t, "Children of 0", d.Children(0), 1, 3, 4)
		alike(t, "Children of 1", d.Children(1), 2)
		alike(t, "Children of 2", d.Children(2))
		alike(t, "Children of 3", d.Children(3), 5)
		alike(t, "Running", d.Running(), 0, 1, 3, 5)
		if d.State(3) != api.Running || d.State(4) != api.Zombie || d.Status(4) != 40 || d.Status(3) != 0 {
			t.Error(d.State(3), d.State(4), d.Status(4), d.Status(3))
		}
		waits(t, d, 0, 4, 40, api.OK)
		waits(t, d, 0, 0, 0, api.ErrAgain)
		waits(t, d, 1, 2, end.status, api.OK)
		waits(t, d, 1, 0, 0, api.ErrForm)
	}
}

// TestP23_1Statuses: any status is kept as it is.
func TestP23_1Statuses(t *testing.T) {
	for _, status := range []int{0, 1, -1, 255, 256, -256, math.MaxInt, math.MinInt} {
		d := forked(t, 0)
		if d.Exit(1, status) != api.OK || d.Status(1) != status {
			t.Error(status, d.Status(1))
		}
		waits(t, d, 0, 1, status, api.OK)
		if d.Status(1) != 0 {
			t.Error("a status of none", d.Status(1))
		}
	}
}

// TestP23_1Twice: what ended does not end again, and keeps its status.
func TestP23_1Twice(t *testing.T) {
	d := forked(t, 0)
	if d.Exit(1, 5) != api.OK || d.Exit(1, 6) != api.ErrNoent || d.Kill(1) != api.ErrNoent || d.Status(1) != 5 {
		t.Error(d.Status(1))
	}
	d = forked(t, 0)
	if d.Kill(1) != api.OK || d.Kill(1) != api.ErrNoent || d.Exit(1, 6) != api.ErrNoent || d.Status(1) != 137 {
		t.Error(d.Status(1))
	}
}

// TestP23_1Wait: ErrForm without a child, ErrAgain while all run, then the least Zombie, each once.
func TestP23_1Wait(t *testing.T) {
	d := forked(t, 0, 0, 0, 1)
	waits(t, d, 2, 0, 0, api.ErrForm)
	waits(t, d, 4, 0, 0, api.ErrForm)
	waits(t, d, 0, 0, 0, api.ErrAgain)
	waits(t, d, 1, 0, 0, api.ErrAgain)
	ended(t, d, 3)
	waits(t, d, 1, 0, 0, api.ErrAgain)
	waits(t, d, 2, 0, 0, api.ErrForm)
	ended(t, d, 2)
	was := *d
	waits(t, d, 2, 0, 0, api.ErrNoent)
	waits(t, d, 4, 0, 0, api.ErrForm)
	if *d != was {
		t.Error("changed")
	}
	waits(t, d, 0, 2, 20, api.OK)
	if d.State(2) != api.NoProc || d.Parent(2) != -1 || d.State(3) != api.Zombie {
		t.Error(d.State(2), d.Parent(2), d.State(3))
	}
	waits(t, d, 0, 3, 30, api.OK)
	waits(t, d, 0, 0, 0, api.ErrAgain)
	ended(t, d, 1)
	waits(t, d, 0, 1, 10, api.OK)
	waits(t, d, 0, 0, 0, api.ErrAgain)
	ended(t, d, 4)
	waits(t, d, 0, 4, 40, api.OK)
	waits(t, d, 0, 0, 0, api.ErrForm)
	alike(t, "Running", d.Running(), 0)
}

// TestP23_1LeftTo0: 0 waits for those that were left to it, whoever made them.
func TestP23_1LeftTo0(t *testing.T) {
	d := ended(t, forked(t, 0, 1, 2, 2), 4, 3, 2, 1)
	alike(t, "Children of 0", d.Children(0), 1, 2, 3, 4)
	for _, child := range []int{1, 2, 3, 4} {
		waits(t, d, 0, child, 10*child, api.OK)
	}
	waits(t, d, 0, 0, 0, api.ErrForm)
}

// TestP23_1GivenAgain: a number that is given again has nothing of who had it.
func TestP23_1GivenAgain(t *testing.T) {
	d := forked(t, 0, 0, 1)
	ended(t, d, 1)
	waits(t, d, 0, 1, 10, api.OK)
	gives(t, d, 2, 1, api.OK)
	if d.State(1) != api.Running || d.Parent(1) != 2 || d.Status(1) != 0 || d.Parent(3) != 0 {
		t.Error(d.State(1), d.Parent(1), d.Status(1), d.Parent(3))
	}
	alike(t, "Children of 1", d.Children(1))
	waits(t, d, 1, 0, 0, api.ErrForm)
}

// TestP23_2Told: what is told of those that run, of a Zombie, and of what there is not.
func TestP23_2Told(t *testing.T) {
	d := ended(t, forked(t, 0, 1, 0, 1), 2)
	for _, c := range []struct {
		pid, parent, status int
		state               api.ProcState
		children            []int
	}{
		{0, 0, 0, api.Running, []int{1, 3}},
		{1, 0, 0, api.Running, []int{2, 4}},
		{2, 1, 20, api.Zombie, nil},
		{3, 0, 0, api.Running, nil},
		{4, 1, 0, api.Running, nil},
		{5, -1, 0, api.NoProc, nil},
		{6, -1, 0, api.NoProc, nil},
		{-1, -1, 0, api.NoProc, nil},
	} {
		if d.State(c.pid) != c.state || d.Parent(c.pid) != c.parent || d.Status(c.pid) != c.status {
			t.Error(c.pid, d.State(c.pid), d.Parent(c.pid), d.Status(c.pid))
		}
		alike(t, "Children", d.Children(c.pid), c.children...)
	}
	alike(t, "Running", d.Running(), 0, 1, 3, 4)
}

// TestP3Lists: lists that were answered are the caller's.
func TestP3Lists(t *testing.T) {
	p := pairOf(t)
	p.forks(0, 1, 0)
	for _, l := range [][]int{p.d.Children(0), p.d.Running(), p.d.Children(1)} {
		l = l[:cap(l)]
		for n := range l {
			l[n] = 99
		}
		p.told("behind a change of a list")
	}
	first := p.d.Running()
	second := p.d.Running()
	first[0] = 7
	p.fork(0)
	alike(t, "an older list", second, 0, 1, 2, 3)
}
