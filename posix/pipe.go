package posix

import (
	"strconv"

	"embrasure/api"
)

// pipe is the bytes that are in one. Whether it is open is told by who has its ends.
type pipe struct {
	bytes [api.MaxPipe]byte
	many  int
}

// read reads at most so many bytes; of an empty pipe there may come some, as long as it is open to write.
func (p *pipe) read(many int, open bool) (string, api.Errno) {
	if many < 0 {
		return "", api.ErrRange
	}
	if many == 0 {
		return "", api.OK
	}
	if p.many == 0 && open {
		return "", api.ErrAgain
	}
	many = min(many, p.many)
	text := string(p.bytes[:many])
	copy(p.bytes[:], p.bytes[many:])
	p.many -= many
	return text, api.OK
}

// write writes what there is room for, but few bytes whole or not at all, to a pipe that is open to read.
func (p *pipe) write(text string, open bool) (int, api.Errno) {
	if !open {
		return 0, api.ErrState
	}
	if text == "" {
		return 0, api.OK
	}
	room := len(p.bytes) - p.many
	if room == 0 || len(text) <= api.Atomic && room < len(text) {
		return 0, api.ErrAgain
	}
	many := copy(p.bytes[p.many:], text)
	p.many += many
	return many, api.OK
}

// join makes a pipe, and a descriptor of each of its ends.
func (m *Model) join(pid int) api.Reply {
	r := &m.rows[pid]
	if r.room() < 2 {
		return refused(api.ErrQuota)
	}
	n := 0
	for m.had(source{n}) || m.had(sink{n}) {
		n++
	}
	low := r.put(source{n})
	return api.Reply{N: low, Text: strconv.Itoa(r.put(sink{n}))}
}

// drain lets nothing be left in a pipe that nobody has.
func (m *Model) drain(n int) {
	if !m.had(source{n}) && !m.had(sink{n}) {
		m.pipes[n] = pipe{}
	}
}
