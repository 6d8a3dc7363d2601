package dev

import "embrasure/api"

// queue is the requests that wait, as they were taken in, and the number that was given last.
type queue struct {
	waiting []api.Request
	last    uint32
}

// add lets a request wait behind all others, and answers the number that it is given.
func (q *queue) add(r api.Request) (uint32, api.Errno) {
	if len(q.waiting) >= api.MaxQueue {
		return 0, api.ErrSpace
	}
	q.last++
	r.Id = q.last
	q.waiting = append(q.waiting, r)
	return r.Id, api.OK
}

// take is the i-th request, which waits no more; false: there is none.
func (q *queue) take(i int) (api.Request, bool) {
	if i < 0 || i >= len(q.waiting) {
		return api.Request{}, false
	}
	r := q.waiting[i]
	behind := copy(q.waiting[i:], q.waiting[i+1:])
	q.waiting = q.waiting[:i+behind]
	return r, true
}

// out lets all wait no more that gone tells, and answers their numbers.
func (q *queue) out(gone func(api.Request) bool) []uint32 {
	var numbers []uint32
	var stay []api.Request
	for _, r := range q.waiting {
		if gone(r) {
			numbers = append(numbers, r.Id)
		} else {
			stay = append(stay, r)
		}
	}
	q.waiting = stay
	return numbers
}

// requests are those that wait, in a list of their own.
func (q *queue) requests() []api.Request {
	l := make([]api.Request, len(q.waiting))
	copy(l, q.waiting)
	return l
}

// another is a queue with the same, which gives the same numbers from here on.
func (q *queue) another() queue {
	return queue{waiting: q.requests(), last: q.last}
}
