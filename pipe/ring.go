package pipe

import "embrasure/api"

// ring are bytes that go round in an array: many of them, the first one at from.
type ring struct {
	bytes [api.MaxPipe]byte
	from  int
	many  int
}

func (r *ring) room() int {
	return len(r.bytes) - r.many
}

// put lays bytes behind all others; there must be room for them.
func (r *ring) put(data string) {
	at := r.place(r.many)
	done := copy(r.bytes[at:], data)
	copy(r.bytes[:], data[done:])
	r.many += len(data)
}

// first are the first bytes, which stay; so many must be there.
func (r *ring) first(many int) string {
	text := make([]byte, many)
	done := copy(text, r.bytes[r.from:])
	copy(text[done:], r.bytes[:])
	return string(text)
}

// drop takes the first bytes out; so many must be there.
func (r *ring) drop(many int) {
	r.from = r.place(many)
	r.many -= many
}

// place is where the byte lies that has n others ahead of it.
func (r *ring) place(n int) int {
	return (r.from + n) % len(r.bytes)
}
