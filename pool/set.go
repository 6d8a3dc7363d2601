package pool

import (
	"iter"
	"math/bits"
)

// set is some numbers, of environments or of frames, each a bit: MaxFrames, the greatest of the limits, are as many as there are bits.
type set uint64

// of is the set of one number; the empty one, if there is no bit for it.
func of(n uint8) set {
	return 1 << n
}

func (s set) has(n uint8) bool {
	return s&of(n) != 0
}

func (s set) size() int {
	return bits.OnesCount64(uint64(s))
}

// all yields the numbers, rising.
func (s set) all() iter.Seq[uint8] {
	return func(yield func(uint8) bool) {
		for rest := uint64(s); rest != 0; rest &= rest - 1 {
			if !yield(uint8(bits.TrailingZeros64(rest))) {
				return
			}
		}
	}
}

// list are the numbers, rising.
func (s set) list() []uint8 {
	l := make([]uint8, 0, s.size())
	for n := range s.all() {
		l = append(l, n)
	}
	return l
}
