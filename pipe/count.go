package pipe

import "embrasure/api"

// most is how often a pipe may be open to read, and how often to write.
const most = 100

// count is how often a pipe is open in one of its two ways.
type count int

func (c *count) more() api.Errno {
	if *c >= most {
		return api.ErrSpace
	}
	*c++
	return api.OK
}

func (c *count) less() api.Errno {
	if *c <= 0 {
		return api.ErrState
	}
	*c--
	return api.OK
}

func (c *count) times() int {
	return int(*c)
}
