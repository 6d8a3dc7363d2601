package audit

import (
	"slices"
	"testing"

	"embrasure/api"
)

// TestHistory: from none of the events to all, each with who has what then; it can be left.
func TestHistory(t *testing.T) {
	l := []api.Event{grant(0, 5), share(1, 5), free(0, 5)}
	want := [][]uint8{{}, {0}, {0, 1}, {1}}
	var places []int
	for n, had := range history(l) {
		places = append(places, n)
		if got := had.owners[5].rising(); !slices.Equal(got, want[n]) {
			t.Error(n, got)
		}
	}
	if !slices.Equal(places, []int{0, 1, 2, 3}) {
		t.Error(places)
	}
	for n := range history(l) {
		if n == 1 {
			break
		}
	}
	for n := range history(nil) {
		if n != 0 {
			t.Error(n)
		}
	}
}

// TestThose: the events that are asked for, with their places; they can be left.
func TestThose(t *testing.T) {
	l := []api.Event{grant(0, 5), share(1, 5), free(0, 5), take(1, 5)}
	var places []int
	for n, e := range those(l, func(e api.Event) bool { return e.Env == 1 }) {
		places = append(places, n)
		if e != l[n] {
			t.Error(n, e)
		}
	}
	if !slices.Equal(places, []int{1, 3}) {
		t.Error(places)
	}
	for n := range those(l, gives) {
		if n != 0 {
			t.Error(n)
		}
		break
	}
}
