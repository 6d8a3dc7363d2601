package machine

import "embrasure/api"

// outcome is what a step came to: its type tells the kind.
type outcome any

type (
	ran    struct{}
	called struct {
		word  api.Word
		errno api.Errno
	}
	faulted struct {
		at api.Word
	}
	ended struct{}
)

// tell is an environment's step, of what it came to.
func tell(env uint8, o outcome) api.Step {
	s := api.Step{Env: env}
	switch x := o.(type) {
	case ran:
		s.Kind = api.Ran
	case called:
		s.Kind, s.Word, s.Errno = api.Called, x.word, x.errno
	case faulted:
		s.Kind, s.Word = api.Faulted, x.at
	case ended:
		s.Kind = api.Ended
	}
	return s
}

// yields tells whether a step gave its slice up.
func yields(o outcome) bool {
	c, ok := o.(called)
	return ok && callKind(c.word) == api.YieldCall
}

// callKind is the kind of call that a word tells. A kind has a byte: what is above is none, not the one with the same lower byte.
func callKind(w api.Word) api.CallKind {
	if w > 0xff {
		return api.NoCall
	}
	return api.CallKind(w)
}
