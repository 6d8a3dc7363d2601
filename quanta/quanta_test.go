package quanta

import (
	"math"
	"slices"
	"testing"

	"embrasure/api"
)

// nobody is who has a place that is nobody's.
const nobody = -1

// state is all that a vector tells: who has which place, the penalties, and whose turn it is.
type state struct {
	places  [8]int
	penalty [6]int
	now     int
}

// fresh is what a new vector tells, but for the places that are told: each with its environment.
func fresh(has map[int]int) state {
	s := state{now: 7}
	for place := range s.places {
		s.places[place] = nobody
		if env, ok := has[place]; ok {
			s.places[place] = env
		}
	}
	return s
}

// vector has the places of environments that are told.
func vector(t *testing.T, has map[int]int) *Vector {
	t.Helper()
	v := New()
	for place, env := range has {
		if e := v.Take(uint8(env), place); e != api.OK {
			t.Fatal(env, place, e)
		}
	}
	return v
}

// outside are places that there are not.
func outside() []int {
	return []int{-1, 8, 9, -2, -8, 15, 16, 255, 256, 1 << 16, 1 << 32, 1<<32 + 1, -1 << 32, math.MinInt, math.MaxInt}
}

// told holds all that a vector tells, also of what is not there, against what is asked for.
func told(t *testing.T, what string, v *Vector, want state) {
	t.Helper()
	var places [256][]int
	for place, by := range want.places {
		env, ok := v.At(place)
		if ok != (by != nobody) || int(env) != max(by, 0) {
			t.Fatal(what, "At", place, env, ok, "not", by)
		}
		if by != nobody {
			places[by] = append(places[by], place)
		}
	}
	for _, place := range outside() {
		if env, ok := v.At(place); env != 0 || ok {
			t.Fatal(what, "At", place, env, ok)
		}
	}
	for env := range 256 {
		if got := v.Places(uint8(env)); !slices.Equal(got, places[env]) {
			t.Fatal(what, "Places", env, got, "not", places[env])
		}
		penalty := 0
		if env < 6 {
			penalty = want.penalty[env]
		}
		if got := v.Penalty(uint8(env)); got != penalty {
			t.Fatal(what, "Penalty", env, got, "not", penalty)
		}
	}
	if got := v.Now(); got != want.now {
		t.Fatal(what, "Now", got, "not", want.now)
	}
}

// turns holds the next ones against what is asked for; nobody: none has one.
func turns(t *testing.T, what string, v *Vector, want ...int) {
	t.Helper()
	for k, place := range want {
		before := v.Now()
		got, env, ok := v.Turn()
		if place == nobody {
			if got != 0 || env != 0 || ok || v.Now() != before {
				t.Fatal(what, k, got, env, ok, v.Now())
			}
			continue
		}
		by, _ := v.At(place)
		if got != place || env != by || !ok || v.Now() != place {
			t.Fatal(what, k, got, env, ok, v.Now(), "not", place)
		}
	}
}

// over lets an environment without a penalty have one.
func over(t *testing.T, v *Vector, env uint8, penalty int) {
	t.Helper()
	for left := penalty; left > 0; left -= min(left, 996) {
		if e := v.Over(env, 4+min(left, 996)); e != api.OK {
			t.Fatal(env, left, e)
		}
	}
	if got := v.Penalty(env); got != penalty {
		t.Fatal(env, got, penalty)
	}
}

func TestP11_1New(t *testing.T) {
	v := New()
	if v == nil {
		t.Fatal("none")
	}
	told(t, "a new one", v, fresh(nil))
	turns(t, "a new one", v, nobody, nobody)
	told(t, "a new one behind turns", v, fresh(nil))
	v.Take(3, 3)
	v.Over(3, 9)
	told(t, "the next one", New(), fresh(nil))
}

func TestP11_2Example(t *testing.T) {
	turns(t, "without a penalty", vector(t, map[int]int{0: 1, 3: 2}), 0, 3, 0)
	v := vector(t, map[int]int{0: 1, 3: 2})
	if e := v.Over(2, 5); e != api.OK {
		t.Error(e)
	}
	turns(t, "with a penalty", v, 0, 0, 3)
}

// TestP11_1Take: each place is each one's that takes it first, and nobody's then, not even its own, to be taken again.
func TestP11_1Take(t *testing.T) {
	for env := range 6 {
		for place := range 8 {
			v := New()
			if e := v.Take(uint8(env), place); e != api.OK {
				t.Fatal(env, place, e)
			}
			told(t, "taken", v, fresh(map[int]int{place: env}))
			for other := range uint8(6) {
				if e := v.Take(other, place); e != api.ErrExist {
					t.Fatal(env, place, other, e)
				}
			}
			told(t, "taken twice", v, fresh(map[int]int{place: env}))
		}
	}
}

// TestE7TakeAll: there are MaxSlices of them, for one or for several.
func TestE7TakeAll(t *testing.T) {
	for _, by := range []func(int) int{
		func(int) int { return 0 },
		func(int) int { return 5 },
		func(place int) int { return place % 6 },
		func(place int) int { return (7 - place) / 2 },
	} {
		v, has := New(), map[int]int{}
		for k := range 8 {
			place := k * 5 % 8
			has[place] = by(place)
			if e := v.Take(uint8(by(place)), place); e != api.OK {
				t.Fatal(place, e)
			}
			told(t, "one more", v, fresh(has))
		}
		for place := range 8 {
			for env := range uint8(6) {
				if e := v.Take(env, place); e != api.ErrExist {
					t.Fatal(env, place, e)
				}
			}
		}
		told(t, "all", v, fresh(has))
	}
}

// TestP11_1Range: environments and places that are none, ahead of whose a place is.
func TestP11_1Range(t *testing.T) {
	has := map[int]int{0: 0, 1: 5, 7: 5}
	v := vector(t, has)
	refused := func(env uint8, place int, to uint8) {
		t.Helper()
		if e := v.Take(env, place); e != api.ErrRange {
			t.Fatal("Take", env, place, e)
		}
		if e := v.Give(env, place, to); e != api.ErrRange {
			t.Fatal("Give", env, place, to, e)
		}
		if e := v.Drop(env, place); e != api.ErrRange {
			t.Fatal("Drop", env, place, e)
		}
	}
	for _, place := range outside() {
		for env := range 256 {
			refused(uint8(env), place, 0)
			refused(5, place, uint8(env))
		}
	}
	for place := range 8 {
		for env := 6; env < 256; env++ {
			refused(uint8(env), place, 0)
			refused(uint8(env), place, uint8(env))
		}
	}
	told(t, "refused", v, fresh(has))
}

// TestP11_1GiveRange: to one that is none, ahead of whose the place is, and the place stays whose it is.
func TestP11_1GiveRange(t *testing.T) {
	has := map[int]int{0: 0, 1: 5}
	v := vector(t, has)
	for to := 6; to < 256; to++ {
		for env := range uint8(6) {
			for place := range 8 {
				if e := v.Give(env, place, uint8(to)); e != api.ErrRange {
					t.Fatal(env, place, to, e)
				}
			}
		}
	}
	told(t, "refused", v, fresh(has))
}

// TestP11_1Give: of what is one's own, to each, also to oneself; penalties and the turn stay.
func TestP11_1Give(t *testing.T) {
	for env := range 6 {
		for to := range 6 {
			for _, place := range []int{0, 3, 7} {
				v := vector(t, map[int]int{0: env, 3: env, 7: env})
				over(t, v, uint8(env), 3)
				if e := v.Give(uint8(env), place, uint8(to)); e != api.OK {
					t.Fatal(env, place, to, e)
				}
				has := map[int]int{0: env, 3: env, 7: env}
				has[place] = to
				want := fresh(has)
				want.penalty[env] = 3
				told(t, "given", v, want)
			}
		}
	}
}

// TestP11_1Perm: Give and Drop of another one's, and of nobody's; behind Give it is not one's own any more.
func TestP11_1Perm(t *testing.T) {
	has := map[int]int{2: 1, 4: 3}
	v := vector(t, has)
	for env := range 6 {
		for place := range 8 {
			if by, ok := has[place]; ok && by == env {
				continue
			}
			for to := range uint8(6) {
				if e := v.Give(uint8(env), place, to); e != api.ErrPerm {
					t.Fatal("Give", env, place, to, e)
				}
			}
			if e := v.Drop(uint8(env), place); e != api.ErrPerm {
				t.Fatal("Drop", env, place, e)
			}
		}
	}
	told(t, "refused", v, fresh(has))
	if v.Give(1, 2, 3) != api.OK || v.Give(1, 2, 1) != api.ErrPerm || v.Drop(1, 2) != api.ErrPerm || v.Take(1, 2) != api.ErrExist {
		t.Error("behind Give")
	}
	told(t, "given", v, fresh(map[int]int{2: 3, 4: 3}))
	if v.Give(3, 2, 0) != api.OK || v.Give(0, 2, 0) != api.OK {
		t.Error("what was given is the other one's to give")
	}
	told(t, "given on", v, fresh(map[int]int{2: 0, 4: 3}))
}

// TestP11_1Drop: each place, once; another one may take it then. Penalties and the turn stay.
func TestP11_1Drop(t *testing.T) {
	for place := range 8 {
		v := vector(t, map[int]int{place: 4})
		turns(t, "taken", v, place)
		over(t, v, 4, 2)
		if e := v.Drop(4, place); e != api.OK {
			t.Fatal(place, e)
		}
		want := fresh(nil)
		want.penalty[4], want.now = 2, place
		told(t, "dropped", v, want)
		if e := v.Drop(4, place); e != api.ErrPerm {
			t.Fatal(place, e)
		}
		turns(t, "dropped", v, nobody)
		if e := v.Take(0, place); e != api.OK {
			t.Fatal(place, e)
		}
		want.places[place] = 0
		told(t, "taken by another one", v, want)
	}
}

// TestP11_1Out: of one with places and a penalty, with one of both, with none, of one that is none.
func TestP11_1Out(t *testing.T) {
	has := map[int]int{0: 2, 1: 0, 4: 2, 6: 5, 7: 2}
	v := vector(t, has)
	turns(t, "ahead", v, 0, 1, 4)
	over(t, v, 2, 7)
	over(t, v, 1, 3)
	over(t, v, 0, 1)
	want := fresh(has)
	want.penalty, want.now = [6]int{1, 3, 7}, 4
	told(t, "ahead", v, want)
	for env := 6; env < 256; env++ {
		if n := v.Out(uint8(env)); n != 0 {
			t.Fatal(env, n)
		}
	}
	told(t, "of one that is none", v, want)
	if n := v.Out(2); n != 3 {
		t.Error(n)
	}
	want.places[0], want.places[4], want.places[7], want.penalty[2] = nobody, nobody, nobody, 0
	told(t, "of one with places and a penalty", v, want)
	if n := v.Out(1); n != 0 {
		t.Error(n)
	}
	want.penalty[1] = 0
	told(t, "of one with a penalty alone", v, want)
	for _, env := range []uint8{1, 2, 3, 4} {
		if n := v.Out(env); n != 0 {
			t.Error(env, n)
		}
	}
	told(t, "of one with nothing", v, want)
	if n := v.Out(5); n != 1 {
		t.Error(n)
	}
	want.places[6] = nobody
	told(t, "of one with a place alone", v, want)
	if v.Take(2, 0) != api.OK || v.Out(0) != 1 {
		t.Error("behind all")
	}
	turns(t, "behind all", v, 0, 0)
}

// TestP11_1OutAll: one that has all places.
func TestP11_1OutAll(t *testing.T) {
	v := New()
	for place := range 8 {
		v.Take(3, place)
	}
	if n := v.Out(3); n != 8 {
		t.Error(n)
	}
	told(t, "none is left", v, fresh(nil))
}

// TestP11_1Over: a penalty is what steps are above Epilogue; each one's own, with places or without.
func TestP11_1Over(t *testing.T) {
	for steps, penalty := range map[int]int{0: 0, 1: 0, 3: 0, 4: 0, 5: 1, 6: 2, 10: 6, 100: 96, 999: 995, 1000: 996} {
		for env := range 6 {
			v := vector(t, map[int]int{2: 1})
			if e := v.Over(uint8(env), steps); e != api.OK {
				t.Fatal(env, steps, e)
			}
			want := fresh(map[int]int{2: 1})
			want.penalty[env] = penalty
			told(t, "once", v, want)
		}
	}
	v, want := New(), fresh(nil)
	for k, steps := range []int{5, 4, 7, 0, 6} {
		if e := v.Over(2, steps); e != api.OK {
			t.Error(steps, e)
		}
		want.penalty[2] = []int{1, 1, 4, 4, 6}[k]
		told(t, "one behind the other", v, want)
	}
}

// TestE7Over: a penalty is never above 1000, and what would pass it is that.
func TestE7Over(t *testing.T) {
	for _, row := range []struct {
		first, steps, penalty int
	}{{995, 9, 1000}, {996, 8, 1000}, {996, 9, 1000}, {999, 4, 999}, {999, 5, 1000}, {999, 6, 1000}, {999, 1000, 1000}, {1000, 0, 1000}, {1000, 5, 1000}, {1000, 1000, 1000}, {4, 1000, 1000}, {5, 1000, 1000}, {3, 1000, 999}} {
		v := New()
		over(t, v, 5, row.first)
		if e := v.Over(5, row.steps); e != api.OK {
			t.Error(row, e)
		}
		want := fresh(nil)
		want.penalty[5] = row.penalty
		told(t, "at most 1000", v, want)
	}
}

func TestP11_1OverRange(t *testing.T) {
	v := vector(t, map[int]int{2: 1})
	over(t, v, 1, 5)
	want := fresh(map[int]int{2: 1})
	want.penalty[1] = 5
	for _, steps := range []int{-1, 1001, 1002, -4, -5, -1000, 1 << 16, 1 << 32, 1<<32 + 5, math.MinInt, math.MinInt + 3, math.MaxInt} {
		for env := range 256 {
			if e := v.Over(uint8(env), steps); e != api.ErrRange {
				t.Fatal(env, steps, e)
			}
		}
	}
	for env := 6; env < 256; env++ {
		for _, steps := range []int{0, 4, 5, 1000} {
			if e := v.Over(uint8(env), steps); e != api.ErrRange {
				t.Fatal(env, steps, e)
			}
		}
	}
	told(t, "refused", v, want)
}

// TestP11_2TurnOfOne: one place has every turn, from wherever one goes on.
func TestP11_2TurnOfOne(t *testing.T) {
	for place := range 8 {
		v := vector(t, map[int]int{place: 2})
		turns(t, "one", v, place, place, place)
		want := fresh(map[int]int{place: 2})
		want.now = place
		told(t, "one", v, want)
	}
}

// TestP11_2TurnRound: of two, from each place on: the next one behind Now, round, Now itself last.
func TestP11_2TurnRound(t *testing.T) {
	for now := range 8 {
		for a := range 8 {
			for b := range 8 {
				v := vector(t, map[int]int{now: 0})
				turns(t, "up to now", v, now)
				v.Drop(0, now)
				v.Take(1, a)
				v.Take(2, b)
				first, second := a, b
				if (b-now+7)%8 < (a-now+7)%8 {
					first, second = b, a
				}
				turns(t, "two", v, first, second, first, second)
			}
		}
	}
}

// TestP11_2TurnAll: all places, one behind the other, and what comes in between is seen.
func TestP11_2TurnAll(t *testing.T) {
	v := New()
	for place := range 8 {
		v.Take(uint8(place%6), place)
	}
	turns(t, "all", v, 0, 1, 2, 3, 4, 5, 6, 7, 0, 1)
	v.Drop(2, 2)
	v.Give(3, 3, 0)
	turns(t, "one less", v, 3, 4, 5, 6, 7, 0, 1, 3)
	v.Out(0)
	turns(t, "fewer", v, 4, 5, 7, 1, 4)
	v.Take(4, 0)
	turns(t, "one more", v, 5, 7, 0, 1, 4)
}

// TestP11_2TurnPenalty: places with a penalty are passed, each for 1 of it, others have their turns.
func TestP11_2TurnPenalty(t *testing.T) {
	v := vector(t, map[int]int{1: 0, 2: 1, 5: 0, 6: 2})
	over(t, v, 0, 3)
	over(t, v, 2, 1)
	for _, row := range []struct {
		place   int
		penalty [6]int
	}{{2, [6]int{2, 0, 1}}, {2, [6]int{0, 0, 0}}, {5, [6]int{}}, {6, [6]int{}}, {1, [6]int{}}} {
		turns(t, "penalty", v, row.place)
		want := fresh(map[int]int{1: 0, 2: 1, 5: 0, 6: 2})
		want.penalty, want.now = row.penalty, row.place
		told(t, "penalty", v, want)
	}
}

// TestP11_2TurnSameRound: a penalty that is paid by one place does not hold the next one of the same environment back.
func TestP11_2TurnSameRound(t *testing.T) {
	v := vector(t, map[int]int{0: 4, 1: 4, 2: 4, 7: 4})
	over(t, v, 4, 2)
	turns(t, "the third one", v, 2, 7, 0)
	over(t, v, 4, 3)
	turns(t, "Now itself last", v, 0, 1)
}

// TestP11_2TurnAllPassed: none has it, Now stays; what was passed is paid for.
func TestP11_2TurnAllPassed(t *testing.T) {
	v := vector(t, map[int]int{3: 1, 5: 2})
	turns(t, "ahead", v, 3)
	over(t, v, 1, 2)
	over(t, v, 2, 3)
	want := fresh(map[int]int{3: 1, 5: 2})
	want.now = 3
	for _, penalty := range [][6]int{{0, 1, 2}, {0, 0, 1}} {
		turns(t, "all passed", v, nobody)
		want.penalty = penalty
		told(t, "all passed", v, want)
	}
	turns(t, "one is through", v, 3, 5, 3)
}

// TestP11_2TurnAlone: one that is alone pays, place by place, and has its turn then; one without a place pays nothing.
func TestP11_2TurnAlone(t *testing.T) {
	for penalty := range 20 {
		v := vector(t, map[int]int{6: 1})
		over(t, v, 1, penalty)
		over(t, v, 2, 9)
		for range penalty {
			turns(t, "it pays", v, nobody)
		}
		turns(t, "it has paid", v, 6)
		if n := v.Penalty(2); n != 9 {
			t.Fatal(n)
		}
	}
	v := New()
	for place := range 8 {
		v.Take(1, place)
	}
	over(t, v, 1, 1000)
	for range 125 {
		turns(t, "eight at a time", v, nobody)
	}
	turns(t, "paid", v, 0, 1)
}

// layouts are who has which places, made by a rule.
func layouts() []map[int]int {
	var l []map[int]int
	seed := uint32(11)
	for range 200 {
		has := map[int]int{}
		for place := range 8 {
			seed = seed*1664525 + 1013904223
			if by := int(seed>>8) % 8; by < 6 {
				has[place] = by
			}
		}
		if len(has) > 0 {
			l = append(l, has)
		}
	}
	return l
}

// TestP11_3Turns: without a penalty, and if nothing changes, each has as many turns as places, in as many turns as there are places with somebody, wherever one begins.
func TestP11_3Turns(t *testing.T) {
	for _, has := range layouts() {
		v := vector(t, has)
		for begin := range 10 {
			var got [6]int
			for range 3 * len(has) {
				_, env, ok := v.Turn()
				if !ok {
					t.Fatal(has, begin)
				}
				got[env]++
			}
			for env := range uint8(6) {
				if got[env] != 3*len(v.Places(env)) {
					t.Fatal(has, begin, got)
				}
			}
			v.Turn()
		}
	}
}

// TestP11_4Penalty: what is left, if of each environment as many turns are taken out as its penalty is, are the turns.
func TestP11_4Penalty(t *testing.T) {
	for k, has := range layouts() {
		plain, v := vector(t, has), vector(t, has)
		owe := [6]int{k % 5, k % 3, 0, k % 7 * 5, 1, k % 2 * 40}
		for env := range uint8(6) {
			over(t, v, env, owe[env])
		}
		for turn := range 60 {
			want, by, _ := plain.Turn()
			for owe[by] > 0 {
				owe[by]--
				want, by, _ = plain.Turn()
			}
			got, env, ok := v.Turn()
			for !ok {
				got, env, ok = v.Turn()
			}
			if got != want || env != by {
				t.Fatal(has, turn, got, env, want, by)
			}
		}
	}
}

func TestP1NilVector(t *testing.T) {
	var v *Vector
	for n := range 256 {
		env := uint8(n)
		for _, place := range append(outside(), 0, 7) {
			if v.Take(env, place) != api.ErrNil || v.Give(env, place, env) != api.ErrNil || v.Give(0, place, env) != api.ErrNil || v.Drop(env, place) != api.ErrNil || v.Over(env, place) != api.ErrNil {
				t.Fatal(env, place)
			}
			if by, ok := v.At(place); by != 0 || ok {
				t.Fatal(place, by, ok)
			}
		}
		if v.Out(env) != 0 || len(v.Places(env)) != 0 || v.Penalty(env) != 0 {
			t.Fatal(env)
		}
	}
	if place, env, ok := v.Turn(); place != 0 || env != 0 || ok {
		t.Error(place, env, ok)
	}
	if v.Now() != -1 || v.Fork() != nil {
		t.Error(v.Now(), v.Fork())
	}
}

// changes are all calls that change a vector with the places 1 and 5 of environment 0 and a penalty of it, and 3 of environment 1; each tells whether it did.
func changes() []func(*Vector) bool {
	return []func(*Vector) bool{
		func(v *Vector) bool { return v.Take(2, 0) == api.OK },
		func(v *Vector) bool { return v.Give(0, 1, 1) == api.OK },
		func(v *Vector) bool { return v.Drop(1, 3) == api.OK },
		func(v *Vector) bool { return v.Out(0) == 2 },
		func(v *Vector) bool { return v.Over(0, 10) == api.OK },
		func(v *Vector) bool { place, _, ok := v.Turn(); return ok && place == 3 },
	}
}

func TestP4Fork(t *testing.T) {
	for k, change := range changes() {
		has := map[int]int{1: 0, 3: 1, 5: 0}
		v := vector(t, has)
		turns(t, "ahead", v, 1)
		over(t, v, 0, 2)
		want := fresh(has)
		want.penalty[0], want.now = 2, 1
		f := v.Fork()
		if f == nil || f == v {
			t.Fatal(k)
		}
		told(t, "the fork", f, want)
		if !change(f) {
			t.Error(k, "was refused")
		}
		told(t, "behind the fork's change", v, want)
		f = v.Fork()
		if !change(v) {
			t.Error(k, "was refused")
		}
		told(t, "the fork behind a change", f, want)
		g := f.Fork()
		change(g)
		told(t, "behind a fork's fork", f, want)
		change(f)
		for range 20 {
			a, b, ok := f.Turn()
			if c, d, too := g.Turn(); a != c || b != d || ok != too {
				t.Fatal(k, "the same goes on otherwise:", a, b, ok, c, d, too)
			}
		}
	}
}

func TestP3PlacesAreTheCallers(t *testing.T) {
	has := map[int]int{1: 0, 3: 0, 5: 0, 6: 1}
	v := vector(t, has)
	a, b, c := v.Places(0), v.Places(0), v.Fork().Places(0)
	clear(a[:cap(a)])
	if !slices.Equal(b, []int{1, 3, 5}) || !slices.Equal(c, []int{1, 3, 5}) {
		t.Error("answers share room", b, c)
	}
	told(t, "what was handed out", v, fresh(has))
	d := append(v.Places(0), 7)
	v.Out(0)
	if !slices.Equal(b, []int{1, 3, 5}) || !slices.Equal(d, []int{1, 3, 5, 7}) {
		t.Error("what was handed out changes", b, d)
	}
}

// model is what is asked for, as plainly as it is said.
type model struct {
	state
}

func (m *model) there(env uint8, place int) bool {
	return env < 6 && place >= 0 && place < 8
}

func (m *model) take(env uint8, place int) api.Errno {
	switch {
	case !m.there(env, place):
		return api.ErrRange
	case m.places[place] != nobody:
		return api.ErrExist
	}
	m.places[place] = int(env)
	return api.OK
}

func (m *model) give(env uint8, place int, to uint8) api.Errno {
	switch {
	case !m.there(env, place) || !m.there(to, place):
		return api.ErrRange
	case m.places[place] != int(env):
		return api.ErrPerm
	}
	m.places[place] = int(to)
	return api.OK
}

func (m *model) drop(env uint8, place int) api.Errno {
	e := m.give(env, place, env)
	if e == api.OK {
		m.places[place] = nobody
	}
	return e
}

func (m *model) out(env uint8) int {
	n := 0
	for place, by := range m.places {
		if by == int(env) {
			m.places[place] = nobody
			n++
		}
	}
	if env < 6 {
		m.penalty[env] = 0
	}
	return n
}

func (m *model) over(env uint8, steps int) api.Errno {
	if env >= 6 || steps < 0 || steps > 1000 {
		return api.ErrRange
	}
	for range steps - 4 {
		if m.penalty[env] < 1000 {
			m.penalty[env]++
		}
	}
	return api.OK
}

func (m *model) turn() (int, uint8, bool) {
	place := m.now
	for range 8 {
		if place++; place == 8 {
			place = 0
		}
		if by := m.places[place]; by != nobody && m.penalty[by] > 0 {
			m.penalty[by]--
		} else if by != nobody {
			m.now = place
			return place, uint8(by), true
		}
	}
	return 0, 0, false
}

// TestE1AnyOrder holds a vector against the model through calls made by a rule, wrong ones among them.
func TestE1AnyOrder(t *testing.T) {
	seed := uint32(1111)
	chance := func(n int) int {
		seed = seed*1664525 + 1013904223
		return int(seed>>8) % n
	}
	v, m := New(), &model{fresh(nil)}
	done := [6]int{}
	for range 40000 {
		env, to, place, kind := uint8(chance(7)), uint8(chance(7)), chance(10)-1, chance(6)
		var e, want api.Errno
		switch kind {
		case 0:
			e, want = v.Take(env, place), m.take(env, place)
		case 1:
			e, want = v.Give(env, place, to), m.give(env, place, to)
		case 2:
			e, want = v.Drop(env, place), m.drop(env, place)
		case 3:
			if chance(5) == 0 {
				e, want = api.Errno(v.Out(env)), api.Errno(m.out(env))
			}
		case 4:
			steps := []int{-1, 0, 4, 5, 6, 7, 9, 30, 1001}[chance(9)]
			e, want = v.Over(env, steps), m.over(env, steps)
		case 5:
			for range 4 {
				a, b, ok := v.Turn()
				if c, d, too := m.turn(); a != c || b != d || ok != too {
					t.Fatal("Turn", a, b, ok, c, d, too)
				}
			}
		}
		if e != want {
			t.Fatal(kind, env, place, to, e, want)
		}
		if e == api.OK {
			done[kind]++
		}
		told(t, "any order", v, m.state)
		if chance(100) == 0 {
			v = v.Fork()
		}
	}
	for kind, many := range done {
		if many < 200 {
			t.Error(kind, many, "is little")
		}
	}
}

// TestWalkIsLeft: who goes round may stop, and begin again; what changes meanwhile is seen.
func TestWalkIsLeft(t *testing.T) {
	v := vector(t, map[int]int{0: 1, 4: 2, 6: 3})
	walk := v.taken(4)
	for range 2 {
		for many := range 4 {
			var got []int
			for place, env := range walk {
				if len(got) == many {
					break
				}
				if by, _ := v.At(place); by != env {
					t.Error(place, env)
				}
				got = append(got, place)
			}
			if !slices.Equal(got, []int{4, 6, 0}[:many]) {
				t.Error(many, got)
			}
		}
	}
}
