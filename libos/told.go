package libos

// inside are a library's parts; of nil none, which answer as a nil library does.
func (l *Library) inside() *Library {
	if l == nil {
		return &Library{}
	}
	return l
}

// Running are the processes that run, rising.
func (l *Library) Running() []int {
	return l.inside().procs.Running()
}

// Bytes is the memory of a process that runs.
func (l *Library) Bytes(pid int) []byte {
	return l.inside().all(pid)
}

// Names are the names that files have, rising.
func (l *Library) Names() []string {
	return l.inside().store.Names()
}

// Text is the text of the file that has a name.
func (l *Library) Text(name string) (string, bool) {
	return l.inside().text(name)
}

// List are a process' descriptors, rising.
func (l *Library) List(pid int) []int {
	return l.inside().table.List(pid)
}

// Frames is how many are free.
func (l *Library) Frames() int {
	return l.inside().space.Left()
}

// Sectors is how many are free.
func (l *Library) Sectors() int {
	return l.inside().store.Left()
}

// Copies is how often a frame was copied.
func (l *Library) Copies() int {
	return l.inside().space.Copies()
}

// Fork is another library with the same.
func (l *Library) Fork() *Library {
	if l == nil {
		return nil
	}
	return &Library{folk: folk{l.procs.Copy()}, memory: memory{l.space.Copy()}, opens: l.opens.another()}
}
