package extent

import "iter"

// link is one of a list: a thing, and the next one. A list begins with a link whose thing is none of it, so that the first one is laid in and taken out as any other one is.
type link[T any] struct {
	thing T
	next  *link[T]
}

// all yields the things behind a link, in order.
func (l *link[T]) all() iter.Seq[T] {
	return func(yield func(T) bool) {
		for at := l.next; at != nil; at = at.next {
			if !yield(at.thing) {
				return
			}
		}
	}
}

// past is the link that is come to by going on as long as the next thing is one that is told.
func (l *link[T]) past(told func(T) bool) *link[T] {
	for l.next != nil && told(l.next.thing) {
		l = l.next
	}
	return l
}

// put lays a thing in, right behind a link.
func (l *link[T]) put(thing T) {
	l.next = &link[T]{thing: thing, next: l.next}
}

// cut takes the next one out; there is one.
func (l *link[T]) cut() {
	l.next = l.next.next
}

// another is a list with the same, in links of its own.
func (l *link[T]) another() *link[T] {
	first := &link[T]{thing: l.thing}
	last := first
	for thing := range l.all() {
		last.put(thing)
		last = last.next
	}
	return first
}
