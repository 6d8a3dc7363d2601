package audit

import (
	"slices"
	"strconv"
	"strings"
	"testing"

	"embrasure/api"
)

func grant(env, frame uint8) api.Event {
	return api.Event{Kind: api.Granted, Env: env, Frame: frame}
}

func share(env, frame uint8) api.Event {
	return api.Event{Kind: api.Shared, Env: env, Frame: frame}
}

func free(env, frame uint8) api.Event {
	return api.Event{Kind: api.Freed, Env: env, Frame: frame}
}

func take(env, frame uint8) api.Event {
	return api.Event{Kind: api.Repossessed, Env: env, Frame: frame}
}

func of(kind int, env, frame uint8) api.Event {
	return api.Event{Kind: api.EventKind(kind), Env: env, Frame: frame}
}

// table is who has what, written out plainly: of each environment each frame.
type table [256][256]bool

// plain is who has what behind the first n events.
func plain(l []api.Event, n int) *table {
	had := &table{}
	for i := 0; i < n && i < len(l); i++ {
		switch l[i].Kind {
		case 1, 2:
			had[l[i].Env][l[i].Frame] = true
		case 3, 4:
			had[l[i].Env][l[i].Frame] = false
		}
	}
	return had
}

func (h *table) owners(frame uint8) []uint8 {
	var l []uint8
	for env := range 256 {
		if h[env][frame] {
			l = append(l, uint8(env))
		}
	}
	return l
}

func (h *table) frames(env uint8) []uint8 {
	var l []uint8
	for frame := range 256 {
		if h[env][frame] {
			l = append(l, uint8(frame))
		}
	}
	return l
}

func plainRight(l []api.Event, frames int) bool {
	if frames <= 0 || frames >= 65 {
		return false
	}
	for n, e := range l {
		if e.Env >= 6 || int(e.Frame) >= frames || e.Kind == 0 || e.Kind > 4 {
			return false
		}
		had := plain(l, n)
		somebody, it := len(had.owners(e.Frame)) > 0, had[e.Env][e.Frame]
		if e.Kind == 1 && somebody || e.Kind == 2 && (!somebody || it) || e.Kind >= 3 && !it {
			return false
		}
		if e.Kind == 4 && len(had.frames(e.Env)) <= 2 {
			return false
		}
	}
	return true
}

func plainSpans(l []api.Event, frame uint8) []api.Span {
	var spans []api.Span
	for n, e := range l {
		if e.Frame != frame || e.Kind != 1 && e.Kind != 2 || plain(l, n)[e.Env][frame] {
			continue
		}
		to := -1
		for later := len(l) - 1; later > n; later-- {
			if x := l[later]; x.Env == e.Env && x.Frame == frame && (x.Kind == 3 || x.Kind == 4) {
				to = later
			}
		}
		spans = append(spans, api.Span{Env: e.Env, From: n, To: to})
	}
	return spans
}

func plainMost(l []api.Event, env uint8) int {
	most := 0
	for n := range len(l) + 1 {
		most = max(most, len(plain(l, n).frames(env)))
	}
	return most
}

func plainMeet(l []api.Event, a, b uint8) bool {
	for n := range len(l) + 1 {
		had := plain(l, n)
		for frame := range 256 {
			if a != b && had[a][frame] && had[b][frame] {
				return true
			}
		}
	}
	return false
}

func plainLost(l []api.Event, env uint8) []uint8 {
	var lost []uint8
	for _, e := range l {
		if e.Kind == 4 && e.Env == env {
			lost = append(lost, e.Frame)
		}
	}
	return lost
}

func plainCut(l []api.Event, env uint8) []api.Event {
	return slices.DeleteFunc(slices.Clone(l), func(e api.Event) bool { return e.Env != env })
}

// plainText is a list's lines, whatever they are of.
func plainText(l []api.Event) string {
	var lines []string
	for _, e := range l {
		word := []string{"grant", "share", "free", "take"}[e.Kind-1]
		lines = append(lines, word+" "+strconv.Itoa(int(e.Env))+" "+strconv.Itoa(int(e.Frame))+"\n")
	}
	return strings.Join(lines, "")
}

// chances are numbers that look like chance, and are the same each time.
func chances(seed uint32) func(int) int {
	return func(n int) int {
		seed = seed*1664525 + 1013904223
		return int(seed>>8) % n
	}
}

// events are any, of few environments and frames, seldom of others.
func events(chance func(int) int, many int) []api.Event {
	var l []api.Event
	for range many {
		e := of(1+chance(4), uint8(chance(3)), uint8(chance(4)))
		switch chance(30) {
		case 0:
			e.Kind = api.EventKind(chance(256))
		case 1:
			e.Env = uint8(chance(256))
		case 2:
			e.Frame = uint8(chance(256))
		}
		l = append(l, e)
	}
	return l
}

// rightOnes are events that are right, of so many frames, as many as there come.
func rightOnes(chance func(int) int, frames, tries int) []api.Event {
	var l []api.Event
	for range tries {
		e := of(1+chance(4), uint8(chance(6)), uint8(chance(frames)))
		if next := append(l[:len(l):len(l)], e); plainRight(next, frames) {
			l = next
		}
	}
	return l
}

// all holds all that is told of events against what the plain one tells.
func all(t *testing.T, l []api.Event) {
	t.Helper()
	was := slices.Clone(l)
	for _, frames := range []int{-1, 0, 1, 3, 4, 5, 63, 64, 65} {
		if got := Right(l, frames); got != plainRight(l, frames) {
			t.Fatal("Right", l, frames, got)
		}
	}
	for n := -1; n <= len(l)+1; n++ {
		had := plain(l, max(n, 0))
		for _, x := range []uint8{0, 1, 2, 3, 4, 5, 6, 63, 64, 255} {
			if got := Owners(l, n, x); !slices.Equal(got, had.owners(x)) {
				t.Fatal("Owners", l, n, x, got)
			}
			if got := Frames(l, n, x); !slices.Equal(got, had.frames(x)) {
				t.Fatal("Frames", l, n, x, got)
			}
		}
	}
	for _, x := range []uint8{0, 1, 2, 3, 4, 6, 64, 255} {
		allOf(t, l, x)
	}
	if !slices.Equal(l, was) {
		t.Fatal("what was handed in is changed", l, was)
	}
}

// allOf is all, of an environment, or a frame.
func allOf(t *testing.T, l []api.Event, x uint8) {
	t.Helper()
	if got := Spans(l, x); !slices.Equal(got, plainSpans(l, x)) {
		t.Fatal("Spans", l, x, got)
	}
	if got := Most(l, x); got != plainMost(l, x) {
		t.Fatal("Most", l, x, got)
	}
	if got := Lost(l, x); !slices.Equal(got, plainLost(l, x)) {
		t.Fatal("Lost", l, x, got)
	}
	if got := Cut(l, x); !slices.Equal(got, plainCut(l, x)) {
		t.Fatal("Cut", l, x, got)
	}
	for _, y := range []uint8{0, 1, 2, 5, 255} {
		if got := Meet(l, x, y); got != plainMeet(l, x, y) {
			t.Fatal("Meet", l, x, y, got)
		}
	}
}
