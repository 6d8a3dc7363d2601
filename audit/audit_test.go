package audit

import (
	"math"
	"slices"
	"testing"

	"embrasure/api"
	"embrasure/kernel"
	"embrasure/pool"
)

func TestP18_1Example(t *testing.T) {
	l := []api.Event{grant(0, 5), share(1, 5), free(0, 5)}
	if got := Owners(l, 2, 5); !slices.Equal(got, []uint8{0, 1}) {
		t.Error(got)
	}
	if got := Spans(l, 5); !slices.Equal(got, []api.Span{{Env: 0, From: 0, To: 2}, {Env: 1, From: 1, To: -1}}) {
		t.Error(got)
	}
	if !Right(l, 6) || Right(l, 5) {
		t.Error("Right")
	}
}

// TestP18_1RightFrames: of 1 to MaxFrames frames, each below it.
func TestP18_1RightFrames(t *testing.T) {
	for _, l := range [][]api.Event{nil, {}} {
		for _, frames := range []int{1, 2, 63, 64} {
			if !Right(l, frames) {
				t.Error(frames)
			}
		}
		for _, frames := range []int{math.MinInt, -64, -1, 0, 65, 66, 256, 257, 1<<32 + 1, math.MaxInt} {
			if Right(l, frames) {
				t.Error(frames)
			}
		}
	}
	for frame := range 256 {
		for _, frames := range []int{1, 2, 63, 64, 65, 256, math.MaxInt} {
			if got := Right([]api.Event{grant(0, uint8(frame))}, frames); got != (frame < frames && frames <= 64) {
				t.Error(frame, frames, got)
			}
		}
	}
}

// TestP18_1RightEnvs: each environment below MaxEnvs, at the first event and behind others.
func TestP18_1RightEnvs(t *testing.T) {
	for env := range 256 {
		e := grant(uint8(env), 3)
		if Right([]api.Event{e}, 64) != (env < 6) || Right([]api.Event{grant(0, 1), share(1, 1), e}, 64) != (env < 6) {
			t.Error(env)
		}
	}
}

// TestP18_1RightKinds: each kind, right and not, behind events that are right; NoEvent and kinds behind the last are never.
func TestP18_1RightKinds(t *testing.T) {
	l := []api.Event{grant(0, 0), grant(0, 1), grant(1, 2), share(0, 2), share(2, 2), free(1, 2), grant(1, 4), free(1, 4)}
	if !Right(l, 5) {
		t.Fatal("these are right")
	}
	for _, c := range []struct {
		e    api.Event
		want bool
	}{
		{grant(0, 3), true}, {grant(5, 3), true}, {grant(1, 4), true}, {grant(0, 4), true},
		{grant(0, 0), false}, {grant(1, 0), false}, {grant(1, 2), false}, {grant(0, 2), false}, {grant(3, 1), false},
		{share(1, 0), true}, {share(1, 2), true}, {share(5, 2), true},
		{share(0, 0), false}, {share(0, 2), false}, {share(2, 2), false}, {share(0, 3), false}, {share(0, 4), false},
		{free(0, 0), true}, {free(0, 2), true}, {free(2, 2), true},
		{free(1, 2), false}, {free(1, 4), false}, {free(1, 0), false}, {free(0, 3), false}, {free(3, 2), false},
		{take(0, 0), true}, {take(0, 1), true}, {take(0, 2), true},
		{take(2, 2), false}, {take(1, 2), false}, {take(0, 3), false}, {take(1, 4), false}, {take(0, 4), false},
	} {
		if got := Right(append(l[:len(l):len(l)], c.e), 5); got != c.want {
			t.Error(c.e, got)
		}
		if got := Right(append(l[:len(l):len(l)], c.e, grant(0, 9)), 64); got != c.want {
			t.Error(c.e, "and more", got)
		}
	}
	for kind := range 256 {
		if kind >= 1 && kind <= 4 {
			continue
		}
		for env := range uint8(4) {
			for frame := range uint8(5) {
				if Right(append(l[:len(l):len(l)], of(kind, env, frame)), 5) || Right([]api.Event{of(kind, env, frame)}, 5) {
					t.Error(kind, env, frame)
				}
			}
		}
	}
}

// TestP18_1RightOnce: one that is not right, ahead of all, between and behind.
func TestP18_1RightOnce(t *testing.T) {
	l := []api.Event{grant(0, 0), grant(0, 1), grant(0, 2), take(0, 1), free(0, 0), grant(3, 0)}
	for at := range len(l) + 1 {
		for _, e := range []api.Event{{}, {Kind: 5}, free(4, 4), share(4, 4), take(3, 4), grant(6, 4), grant(4, 7), grant(255, 255)} {
			if Right(slices.Insert(slices.Clone(l), at, e), 7) {
				t.Error(at, e)
			}
		}
		if !Right(slices.Insert(slices.Clone(l), at, grant(4, 4)), 7) {
			t.Error(at)
		}
	}
}

// TestP18_1RightMinFrames: what is taken leaves MinFrames; what is shared counts, what is freed not any more.
func TestP18_1RightMinFrames(t *testing.T) {
	for many := 1; many <= 5; many++ {
		var l []api.Event
		for n := range many {
			l = append(l, grant(5, uint8(n)), share(1, uint8(n)))
		}
		if got := Right(append(l[:len(l):len(l)], take(1, 0)), 5); got != (many > 2) {
			t.Error(many, got)
		}
		if got := Right(append(l[:len(l):len(l)], free(1, 0), take(1, uint8(many-1))), 5); got != (many > 3) {
			t.Error(many, "one freed", got)
		}
		if got := Right(append(l[:len(l):len(l)], take(1, 0), take(1, uint8(many-1))), 5); got != (many > 3) {
			t.Error(many, "two taken", got)
		}
		if got := Right(append(l[:len(l):len(l)], take(5, 0), take(1, 0)), 5); got != (many > 2) {
			t.Error(many, "of each one", got)
		}
	}
}

// TestP18_1Owners: rising, behind so many events, also of events that are not right.
func TestP18_1Owners(t *testing.T) {
	l := []api.Event{share(200, 9), grant(7, 9), grant(3, 9), free(5, 9), grant(7, 9), {Env: 8, Frame: 9}, {Kind: 5, Env: 8, Frame: 9}, take(7, 9), free(7, 9), share(0, 9), take(255, 9), grant(1, 8)}
	want := [][]uint8{{}, {200}, {7, 200}, {3, 7, 200}, {3, 7, 200}, {3, 7, 200}, {3, 7, 200}, {3, 7, 200}, {3, 200}, {3, 200}, {0, 3, 200}, {0, 3, 200}, {0, 3, 200}, {0, 3, 200}}
	for n, owners := range want {
		if got := Owners(l, n, 9); !slices.Equal(got, owners) {
			t.Error(n, got)
		}
	}
	for _, n := range []int{math.MinInt, -1, 0} {
		if got := Owners(l, n, 9); len(got) != 0 {
			t.Error(n, got)
		}
	}
	for _, n := range []int{len(l), len(l) + 1, 1 << 40, math.MaxInt} {
		if got := Owners(l, n, 9); !slices.Equal(got, []uint8{0, 3, 200}) {
			t.Error(n, got)
		}
	}
	if len(Owners(l, 99, 0)) != 0 || len(Owners(nil, 5, 9)) != 0 || len(Owners(nil, 0, 9)) != 0 || len(Owners(nil, -1, 9)) != 0 {
		t.Error("somebody has nothing")
	}
}

// TestP18_1Frames: likewise.
func TestP18_1Frames(t *testing.T) {
	l := []api.Event{grant(9, 200), share(9, 7), grant(9, 7), take(9, 5), grant(9, 0), free(9, 7), {Env: 9, Frame: 1}, {Kind: 255, Env: 9, Frame: 1}, grant(8, 3)}
	want := [][]uint8{{}, {200}, {7, 200}, {7, 200}, {7, 200}, {0, 7, 200}, {0, 200}, {0, 200}, {0, 200}, {0, 200}}
	for n, frames := range want {
		if got := Frames(l, n, 9); !slices.Equal(got, frames) {
			t.Error(n, got)
		}
	}
	for _, n := range []int{math.MinInt, -1, 0} {
		if got := Frames(l, n, 9); len(got) != 0 {
			t.Error(n, got)
		}
	}
	for _, n := range []int{len(l), len(l) + 1, math.MaxInt} {
		if got := Frames(l, n, 9); !slices.Equal(got, []uint8{0, 200}) {
			t.Error(n, got)
		}
	}
	if len(Frames(l, 99, 0)) != 0 || len(Frames(nil, 5, 9)) != 0 || len(Frames(nil, -1, 9)) != 0 {
		t.Error("it has something")
	}
}

// TestP18_2Spans: in the order in which they begin; with and without an end; what gives again, or takes what is not had, is passed.
func TestP18_2Spans(t *testing.T) {
	l := []api.Event{free(2, 5), grant(2, 5), grant(1, 4), share(1, 5), share(2, 5), take(1, 5), free(1, 5), free(1, 4), grant(1, 5), free(2, 4), {Env: 2, Frame: 5}, {Kind: 9, Env: 2, Frame: 5}, free(2, 5), share(2, 5)}
	want := []api.Span{{Env: 2, From: 1, To: 12}, {Env: 1, From: 3, To: 5}, {Env: 1, From: 8, To: -1}, {Env: 2, From: 13, To: -1}}
	if got := Spans(l, 5); !slices.Equal(got, want) {
		t.Error(got)
	}
	if got := Spans(l, 4); !slices.Equal(got, []api.Span{{Env: 1, From: 2, To: 7}}) {
		t.Error(got)
	}
	if len(Spans(l, 0)) != 0 || len(Spans(nil, 5)) != 0 {
		t.Error("a span of nothing")
	}
	if got := Spans([]api.Event{grant(255, 255)}, 255); !slices.Equal(got, []api.Span{{Env: 255, From: 0, To: -1}}) {
		t.Error(got)
	}
}

func TestP18_2Most(t *testing.T) {
	l := []api.Event{grant(1, 0), grant(1, 0), grant(2, 1), share(1, 9), share(1, 255), free(1, 3), take(1, 0), grant(1, 0), free(1, 9), {Env: 1, Frame: 30}, free(1, 0), free(1, 255), grant(1, 2)}
	for n, want := range []int{0, 1, 1, 1, 2, 3, 3, 3, 3, 3, 3, 3, 3, 3} {
		if got := Most(l[:n], 1); got != want {
			t.Error(n, got)
		}
	}
	if Most(l, 2) != 1 || Most(l, 0) != 0 || Most(nil, 1) != 0 {
		t.Error("others")
	}
	var many []api.Event
	for n := range 256 {
		many = append(many, grant(9, uint8(n)))
	}
	if got := Most(many, 9); got != 256 {
		t.Error(got)
	}
}

// TestP18_2Meet: the same frame at the same time; never one with itself.
func TestP18_2Meet(t *testing.T) {
	for _, c := range []struct {
		l    []api.Event
		want bool
	}{
		{nil, false},
		{[]api.Event{grant(1, 5)}, false},
		{[]api.Event{grant(1, 5), share(2, 5)}, true},
		{[]api.Event{grant(2, 5), grant(1, 5)}, true},
		{[]api.Event{grant(1, 5), share(2, 5), free(1, 5)}, true},
		{[]api.Event{grant(1, 5), free(1, 5), grant(2, 5)}, false},
		{[]api.Event{grant(1, 5), take(1, 5), share(2, 5), free(2, 5), grant(1, 5)}, false},
		{[]api.Event{grant(1, 5), grant(2, 4)}, false},
		{[]api.Event{grant(1, 5), grant(2, 4), share(3, 5), share(3, 4)}, false},
		{[]api.Event{grant(1, 5), {Env: 2, Frame: 5}, {Kind: 5, Env: 2, Frame: 5}}, false},
		{[]api.Event{grant(1, 5), free(2, 5), share(2, 5)}, true},
	} {
		if Meet(c.l, 1, 2) != c.want || Meet(c.l, 2, 1) != c.want || Meet(c.l, 1, 1) || Meet(c.l, 2, 2) {
			t.Error(c.l)
		}
	}
	if !Meet([]api.Event{grant(255, 255), grant(254, 255)}, 254, 255) {
		t.Error("255")
	}
}

// TestP18_2Lost: as they were, each time, right or not; what was freed is not lost.
func TestP18_2Lost(t *testing.T) {
	l := []api.Event{take(1, 9), grant(1, 5), take(1, 5), free(1, 4), take(2, 3), take(1, 200), grant(1, 5), take(1, 5), {Env: 1, Frame: 7}, {Kind: 5, Env: 1, Frame: 7}}
	if got := Lost(l, 1); !slices.Equal(got, []uint8{9, 5, 200, 5}) {
		t.Error(got)
	}
	if len(Lost(l, 0)) != 0 || len(Lost(nil, 1)) != 0 {
		t.Error("lost without having been taken")
	}
}

// TestP18_2Cut: all of its events, as they were, right or not.
func TestP18_2Cut(t *testing.T) {
	l := []api.Event{take(1, 9), grant(2, 5), {Env: 1, Frame: 200}, share(1, 5), {Kind: 77, Env: 1}, free(1, 5), {}, free(1, 5)}
	if got := Cut(l, 1); !slices.Equal(got, []api.Event{take(1, 9), {Env: 1, Frame: 200}, share(1, 5), {Kind: 77, Env: 1}, free(1, 5), free(1, 5)}) {
		t.Error(got)
	}
	if got := Cut(l, 0); !slices.Equal(got, []api.Event{{}}) {
		t.Error(got)
	}
	if len(Cut(l, 9)) != 0 || len(Cut(nil, 0)) != 0 {
		t.Error("events of nobody")
	}
}

// TestP18AnyEvents: of all short histories, and of any longer ones, what is told is what the plain one tells.
func TestP18AnyEvents(t *testing.T) {
	var some []api.Event
	for kind := range 6 {
		for env := range uint8(2) {
			some = append(some, of(kind, env, env), of(kind, env, 0))
		}
	}
	for _, a := range some {
		all(t, []api.Event{a})
		for _, b := range some[4:] {
			all(t, []api.Event{a, b})
		}
	}
	chance := chances(18)
	for round := range 60 {
		all(t, events(chance, round%15))
	}
}

// TestP18RightHistories: of histories that are right all is told as the plain one does.
func TestP18RightHistories(t *testing.T) {
	chance := chances(81)
	for range 12 {
		l := rightOnes(chance, 1+chance(6), 40)
		all(t, l)
	}
}

// TestP18_4SpansBegin: of right events each span begins where the frame was not had, ends where it was, and none lies in another one of the same environment.
func TestP18_4SpansBegin(t *testing.T) {
	chance, many := chances(4), 0
	for range 20 {
		l := rightOnes(chance, 5, 80)
		for frame := range uint8(5) {
			for _, s := range Spans(l, frame) {
				many++
				to := s.To
				if to == -1 {
					to = len(l)
				}
				if slices.Contains(Owners(l, s.From, frame), s.Env) || !slices.Contains(Owners(l, s.From+1, frame), s.Env) || s.To >= 0 && slices.Contains(Owners(l, to+1, frame), s.Env) {
					t.Fatal(l, frame, s)
				}
				for n := s.From + 1; n <= to; n++ {
					if !slices.Contains(Owners(l, n, frame), s.Env) {
						t.Fatal(l, frame, s, n)
					}
				}
			}
		}
	}
	if many < 200 {
		t.Error(many, "is little")
	}
}

// TestP18_5Pool: what a pool tells of owners is what its events tell, and these are right.
func TestP18_5Pool(t *testing.T) {
	chance := chances(5)
	for range 20 {
		frames := 1 + chance(8)
		p := pool.New(frames)
		for range 120 {
			env, to, frame := uint8(chance(6)), uint8(chance(6)), uint8(chance(frames))
			switch chance(5) {
			case 0, 1:
				p.Grant(env, frame, api.Cap{Name: "/a"})
			case 2:
				p.Share(env, to, frame)
			case 3:
				p.Free(env, frame)
			default:
				p.Repossess(env, frame)
			}
		}
		l := p.Events()
		if !Right(l, frames) {
			t.Fatal("not right", l)
		}
		for frame := range uint8(frames) {
			if got := Owners(l, len(l), frame); !slices.Equal(got, p.Owners(frame)) {
				t.Fatal(frame, got, p.Owners(frame))
			}
		}
		for env := range uint8(6) {
			if got := Frames(l, len(l), env); !slices.Equal(got, p.Frames(env)) || Most(l, env) < len(got) {
				t.Fatal(env, got, p.Frames(env))
			}
		}
	}
}

// TestP18_5Kernel: so is what a kernel tells, behind each call.
func TestP18_5Kernel(t *testing.T) {
	chance := chances(55)
	for range 20 {
		k := kernel.New(10, 2, 1)
		for range 5 {
			k.Spawn(nil, 1+chance(3))
		}
		for range 80 {
			env, frame := uint8(chance(5)), uint8(chance(10))
			switch chance(12) {
			case 0, 1, 2:
				k.Call(env, api.FreeCall, api.Word(frame), 0, 0)
			case 3:
				k.Revoke(env, frame, chance(3))
			case 4, 5:
				k.Tick()
			case 6:
				if chance(6) == 0 {
					k.Exit(env)
				}
			default:
				k.Call(env, api.AllocCall, api.Word(frame), 0, 0)
			}
			l := k.Events()
			if !Right(l, 10) {
				t.Fatal("not right", l)
			}
			for env := range uint8(7) {
				if got := Frames(l, len(l), env); !slices.Equal(got, k.Frames(env)) {
					t.Fatal(env, got, k.Frames(env))
				}
			}
			for frame := range uint8(11) {
				if _, had := k.Guard(frame); had != (len(Owners(l, len(l), frame)) > 0) {
					t.Fatal(frame, had)
				}
			}
		}
	}
}

// TestP1Nil: nil lists are empty ones.
func TestP1Nil(t *testing.T) {
	for x := range 256 {
		n := uint8(x)
		if len(Owners(nil, x, n))+len(Frames(nil, x, n))+len(Spans(nil, n))+Most(nil, n)+len(Lost(nil, n))+len(Cut(nil, n)) != 0 || Meet(nil, n, n+1) || Meet(nil, n, n) {
			t.Error(x)
		}
	}
}

// spare is a list with room behind its end, in which something stands.
func spare(l []api.Event) ([]api.Event, func() bool) {
	more := append(slices.Clone(l), take(5, 63), grant(5, 62), take(5, 61), free(0, 0))
	was := slices.Clone(more)
	return more[:len(l)], func() bool { return slices.Equal(more, was) }
}

// TestP3Lists: what is handed in stays, also behind its end; what is answered is the caller's.
func TestP3Lists(t *testing.T) {
	l, stays := spare([]api.Event{grant(0, 0), grant(0, 1), grant(0, 2), share(1, 1), take(0, 1), free(0, 0)})
	for n := -1; n < 12; n++ {
		Right(l, n)
		a, b := Owners(l, n, 1), Frames(l, n, 0)
		kept, own := slices.Clone(a), slices.Clone(b)
		c, d := Owners(l, n, 1), Frames(l, n, 0)
		spoil(c, 9)
		spoil(d, 9)
		if !slices.Equal(a, kept) || !slices.Equal(b, own) || !stays() {
			t.Fatal(n)
		}
	}
	a, b, c := Spans(l, 1), Lost(l, 0), Cut(l, 0)
	spoil(Spans(l, 1), api.Span{Env: 9})
	spoil(Lost(l, 0), 9)
	spoil(Cut(l, 0), api.Event{Kind: 9})
	Most(l, 0)
	Meet(l, 0, 1)
	Print(l)
	if !stays() || len(a) != 2 || a[0].Env == 9 || !slices.Equal(b, []uint8{1}) || len(c) != 5 || c[0] != grant(0, 0) {
		t.Error(a, b, c, l)
	}
	same := Cut([]api.Event{grant(3, 3)}, 3)
	spoil(l, api.Event{})
	if c[0] != grant(0, 0) || same[0] != grant(3, 3) {
		t.Error("an answer lies in what was handed in")
	}
}

// spoil writes over a list, also behind its end.
func spoil[T any](l []T, with T) {
	l = l[:cap(l)]
	for i := range l {
		l[i] = with
	}
}

// TestP6Again: the same each time, in whichever order maps are gone through.
func TestP6Again(t *testing.T) {
	var l []api.Event
	for n := range 256 {
		l = append(l, grant(uint8(n*77), uint8(3)), grant(3, uint8(n*91)))
	}
	for range 20 {
		for _, got := range [][]uint8{Owners(l, len(l), 3), Frames(l, len(l), 3)} {
			if len(got) != 256 || !slices.IsSorted(got) {
				t.Fatal(got)
			}
		}
	}
}
