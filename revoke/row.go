package revoke

// row is things one behind the other: what came in first is the first to come out.
type row[T any] []T

func (r *row[T]) add(thing T) {
	*r = append(*r, thing)
}

// next takes the first one out; false: there is none.
func (r *row[T]) next() (T, bool) {
	if len(*r) == 0 {
		var none T
		return none, false
	}
	first := (*r)[0]
	*r = (*r)[1:]
	return first, true
}

// part are two rows of one, in its order: those that told tells, and the others.
func part[T any](r row[T], told func(T) bool) (those, others row[T]) {
	for _, thing := range r {
		if told(thing) {
			those.add(thing)
		} else {
			others.add(thing)
		}
	}
	return those, others
}

// list are what is made of each thing of a row, in a list of their own.
func list[T, U any](r row[T], made func(T) U) []U {
	l := make([]U, 0, len(r))
	for _, thing := range r {
		l = append(l, made(thing))
	}
	return l
}
