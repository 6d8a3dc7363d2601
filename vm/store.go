package vm

import (
	"slices"

	"embrasure/api"
	"embrasure/mem"
)

// store are frames, how many pages lie in each of them, and how often one was copied. A frame in which none lies is 0.
type store struct {
	memory *mem.Memory
	refs   [api.MaxFrames]int
	copies int
}

// join lets one more page lie in a frame.
func (s *store) join(frame int) {
	if frame != nowhere {
		s.refs[frame]++
	}
}

// leave lets one page less lie in a frame; the last one leaves nothing there to whom the frame is given next.
func (s *store) leave(frame int) {
	if frame == nowhere {
		return
	}
	s.refs[frame]--
	if s.refs[frame] == 0 {
		s.memory.Zero(frame)
	}
}

// own tells whether a page that lies there may be written as it is.
func (s *store) own(frame int) bool {
	return frame != nowhere && s.refs[frame] == 1
}

// alone is where a page goes to be written: it stays, or it gets the next frame, of which the caller knows that there is one.
func (s *store) alone(frame int) int {
	if s.own(frame) {
		return frame
	}
	next := s.next()
	if frame != nowhere {
		s.memory.Copy(next, frame)
		s.copies++
	}
	s.leave(frame)
	s.join(next)
	return next
}

// next is the least frame in which no page lies.
func (s *store) next() int {
	return slices.Index(s.counts(), 0)
}

// left is how many frames there are in which no page lies.
func (s *store) left() int {
	free := 0
	for _, many := range s.counts() {
		if many == 0 {
			free++
		}
	}
	return free
}

// counts are how many pages lie in each frame that there is.
func (s *store) counts() []int {
	return s.refs[:s.memory.Size()]
}

// fork is another one with the same.
func (s *store) fork() store {
	other := *s
	other.memory = s.memory.Fork()
	return other
}
