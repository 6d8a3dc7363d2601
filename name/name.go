// Package name is names of capabilities, and rights. See ../../shared/doc/02-name.md.
package name

import (
	"iter"
	"strings"

	"embrasure/api"
)

// root is the name without labels.
const root = "/"

// Split are a name's labels.
func Split(name string) ([]string, api.Errno) {
	if name == root {
		return nil, api.OK
	}
	if !strings.HasPrefix(name, root) {
		return nil, api.ErrForm
	}
	var labels []string
	for label := range cut(name[1:]) {
		if len(labels) == api.MaxDepth || !Label(label) {
			return nil, api.ErrForm
		}
		labels = append(labels, label)
	}
	return labels, api.OK
}

// cut yields what stands between the strokes of a text one by one, so that a reader of a long text can stop at the first piece that is wrong.
func cut(s string) iter.Seq[string] {
	return func(yield func(string) bool) {
		start := 0
		for i, r := range s {
			if r != '/' {
				continue
			}
			if !yield(s[start:i]) {
				return
			}
			start = i + 1
		}
		yield(s[start:])
	}
}

// Join is the name of labels.
func Join(labels ...string) (string, api.Errno) {
	if len(labels) > api.MaxDepth {
		return "", api.ErrSpace
	}
	if len(labels) == 0 {
		return root, api.OK
	}
	var text strings.Builder
	for _, label := range labels {
		if !Label(label) {
			return "", api.ErrForm
		}
		text.WriteString(root)
		text.WriteString(label)
	}
	return text.String(), api.OK
}

// Label tells whether a text is a label.
func Label(s string) bool {
	letters := 0
	for _, r := range s {
		letters++
		if letters > api.MaxLabel || !letter(r) {
			return false
		}
	}
	return letters > 0
}

// letter needs no look at the bytes: a broken one is read as U+FFFD, which is no letter.
func letter(r rune) bool {
	return r >= 'a' && r <= 'z' || r >= '0' && r <= '9' || r >= 'α' && r <= 'ω'
}

// Depth is how many labels a name has.
func Depth(name string) int {
	labels, _ := Split(name)
	return len(labels)
}

// Parent is the name without its last label.
func Parent(name string) (string, api.Errno) {
	labels, e := Split(name)
	if e != api.OK {
		return "", e
	}
	if len(labels) == 0 {
		return "", api.ErrNoent
	}
	return Join(labels[:len(labels)-1]...)
}

// Child is the name with one label more.
func Child(name, label string) (string, api.Errno) {
	labels, e := Split(name)
	// The label is asked here, for Join would name the want of room ahead of its form.
	if e != api.OK || !Label(label) {
		return "", api.ErrForm
	}
	return Join(append(labels, label)...)
}

// Above tells whether a name is another one, or stands above it.
func Above(a, b string) bool {
	upper, e := Split(a)
	if e != api.OK {
		return false
	}
	lower, e := Split(b)
	return e == api.OK && alike(upper, lower) == len(upper)
}

// Common is the longest name that is Above both.
func Common(a, b string) (string, api.Errno) {
	first, e := Split(a)
	if e != api.OK {
		return "", e
	}
	second, e := Split(b)
	if e != api.OK {
		return "", e
	}
	return Join(first[:alike(first, second)]...)
}

// alike is how many labels two names share from the first one on.
func alike(a, b []string) int {
	n := 0
	for n < len(a) && n < len(b) && a[n] == b[n] {
		n++
	}
	return n
}
