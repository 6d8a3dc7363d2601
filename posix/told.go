package posix

import "slices"

// Running are the processes that run, rising.
func (m *Model) Running() []int {
	if m == nil {
		return nil
	}
	return m.procs.Running()
}

// Bytes is the memory of a process that runs.
func (m *Model) Bytes(pid int) []byte {
	if !m.runs(pid) {
		return nil
	}
	return slices.Clone(m.spaces[pid][:])
}

// Names are the names that files have, rising.
func (m *Model) Names() []string {
	if m == nil {
		return nil
	}
	var l []string
	for n := range m.files {
		if label := m.files[n].name; label != "" {
			l = append(l, label)
		}
	}
	slices.Sort(l)
	return l
}

// Text is the text of the file that has a name.
func (m *Model) Text(label string) (string, bool) {
	if m == nil {
		return "", false
	}
	n, there := m.find(label)
	if !there {
		return "", false
	}
	f := &m.files[n]
	return f.read(0, f.size), true
}

// List are a process' descriptors, rising.
func (m *Model) List(pid int) []int {
	if !m.runs(pid) {
		return nil
	}
	return m.rows[pid].list()
}

// Fork is another model with the same.
func (m *Model) Fork() *Model {
	if m == nil {
		return nil
	}
	other := *m
	other.procs = m.procs.Copy()
	return &other
}
