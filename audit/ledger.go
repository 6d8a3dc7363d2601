package audit

import (
	"iter"
	"slices"

	"embrasure/api"
)

// set are some numbers.
type set map[uint8]struct{}

// has tells whether all of some are in it.
func (s set) has(all ...uint8) bool {
	for _, n := range all {
		if _, ok := s[n]; !ok {
			return false
		}
	}
	return true
}

// rising are the numbers as a list.
func (s set) rising() []uint8 {
	var l []uint8
	for n := range s {
		l = append(l, n)
	}
	slices.Sort(l)
	return l
}

// sets are a set of each number; one that is empty does not stay.
type sets map[uint8]set

func (s sets) put(of, n uint8) {
	if s[of] == nil {
		s[of] = set{}
	}
	s[of][n] = struct{}{}
}

func (s sets) out(of, n uint8) {
	delete(s[of], n)
	if len(s[of]) == 0 {
		delete(s, of)
	}
}

// ledger is who has what, told from both sides: of each environment its frames, and of each frame those that have it.
type ledger struct {
	frames, owners sets
}

// follow lets an event have been, whether it is right or not.
func (b ledger) follow(e api.Event) {
	switch {
	case gives(e):
		b.frames.put(e.Env, e.Frame)
		b.owners.put(e.Frame, e.Env)
	case takes(e):
		b.frames.out(e.Env, e.Frame)
		b.owners.out(e.Frame, e.Env)
	}
}

// allows tells whether an event of any frame that there is can be next.
func (b ledger) allows(e api.Event) bool {
	if e.Env >= api.MaxEnvs {
		return false
	}
	owners := b.owners[e.Frame]
	switch e.Kind {
	case api.Granted:
		return len(owners) == 0
	case api.Shared:
		return len(owners) > 0 && !owners.has(e.Env)
	case api.Freed:
		return owners.has(e.Env)
	case api.Repossessed:
		return owners.has(e.Env) && len(b.frames[e.Env]) > api.MinFrames
	}
	return false
}

func gives(e api.Event) bool {
	return e.Kind == api.Granted || e.Kind == api.Shared
}

func takes(e api.Event) bool {
	return e.Kind == api.Freed || e.Kind == api.Repossessed
}

// history yields who has what behind the first n events, from none of them to all. It is one ledger that goes on: what is yielded holds until the next.
func history(l []api.Event) iter.Seq2[int, ledger] {
	return func(yield func(int, ledger) bool) {
		now := ledger{frames: sets{}, owners: sets{}}
		for n, e := range l {
			if !yield(n, now) {
				return
			}
			now.follow(e)
		}
		yield(len(l), now)
	}
}

// behind is who has what behind the first n events, or all, if there are fewer.
func behind(l []api.Event, n int) ledger {
	var last ledger
	for _, now := range history(l[:max(0, min(n, len(l)))]) {
		last = now
	}
	return last
}

// those yields the events that are asked for, each with its place.
func those(l []api.Event, asked func(api.Event) bool) iter.Seq2[int, api.Event] {
	return func(yield func(int, api.Event) bool) {
		for n, e := range l {
			if asked(e) && !yield(n, e) {
				return
			}
		}
	}
}
