package pool

import (
	"slices"
	"testing"
)

// TestP6Set: numbers come out rising, whatever they are, and those without a bit are in none.
func TestP6Set(t *testing.T) {
	for _, l := range [][]uint8{{}, {0}, {63}, {0, 63}, {5, 6, 7}, {1, 31, 32, 33, 62}} {
		var s set
		for _, n := range slices.Backward(l) {
			s |= of(n)
		}
		if got := s.list(); !slices.Equal(got, l) || s.size() != len(l) {
			t.Error(l, got, s.size())
		}
		for n := range 256 {
			if s.has(uint8(n)) != slices.Contains(l, uint8(n)) {
				t.Error(l, n)
			}
		}
	}
	if l := (^set(0)).list(); len(l) != 64 || !slices.IsSorted(l) {
		t.Error(l)
	}
}

// TestSetIsLeft: who goes through a set may stop, and begin again.
func TestSetIsLeft(t *testing.T) {
	s := of(3) | of(9) | of(40)
	numbers := s.all()
	for range 2 {
		for many := range 4 {
			var got []uint8
			for n := range numbers {
				if len(got) == many {
					break
				}
				got = append(got, n)
			}
			if !slices.Equal(got, []uint8{3, 9, 40}[:many]) {
				t.Error(many, got)
			}
		}
	}
}
