package machine

import (
	"testing"

	"embrasure/api"
)

// TestOutcomes: what each outcome is told as, and which one yields.
func TestOutcomes(t *testing.T) {
	for _, c := range []struct {
		o      outcome
		want   api.Step
		yields bool
	}{
		{ran{}, api.Step{Kind: api.Ran, Env: 5}, false},
		{ended{}, api.Step{Kind: api.Ended, Env: 5}, false},
		{faulted{11}, api.Step{Kind: api.Faulted, Env: 5, Word: 11}, false},
		{called{11, api.OK}, api.Step{Kind: api.Called, Env: 5, Word: 11}, true},
		{called{267, api.ErrRange}, api.Step{Kind: api.Called, Env: 5, Word: 267, Errno: api.ErrRange}, false},
		{called{17, api.ErrPerm}, api.Step{Kind: api.Called, Env: 5, Word: 17, Errno: api.ErrPerm}, false},
	} {
		if got := tell(5, c.o); got != c.want || yields(c.o) != c.yields {
			t.Error(c.o, got, yields(c.o))
		}
	}
}

// TestKinds: a word tells a kind as far as it is a byte.
func TestKinds(t *testing.T) {
	for w := range 65536 {
		want := api.CallKind(0)
		if w < 256 {
			want = api.CallKind(w)
		}
		if got := callKind(api.Word(w)); got != want {
			t.Fatal(w, got)
		}
	}
}
