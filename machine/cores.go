package machine

// slice is the one that a core is in: whose it is, and how many steps it had. The zero one is that of a core that runs none.
type slice struct {
	runs bool
	env  uint8
	used int
}

// core is one: the slice that it is in stands inside of it.
type core struct {
	number int
	slice
}

type cores []core

// idle are so many cores that run none.
func idle(many int) cores {
	l := make(cores, many)
	for number := range l {
		l[number].number = number
	}
	return l
}

// at is the core with a number; false: there is no such, and one that runs none stands for it.
func (l cores) at(number int) (*core, bool) {
	if number < 0 || number >= len(l) {
		return &core{}, false
	}
	return &l[number], true
}
