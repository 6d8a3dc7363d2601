package audit

import (
	"strconv"
	"strings"

	"embrasure/api"
)

// longest is how many events a text has at most.
const longest = 200

const feed = "\n"

// words are those of the kinds, from the first one on.
var words = [...]string{"grant", "share", "free", "take"}

// Print are events as lines.
func Print(l []api.Event) (string, api.Errno) {
	if len(l) > longest {
		return "", api.ErrForm
	}
	var text strings.Builder
	for _, e := range l {
		if e.Kind < api.Granted || e.Kind > api.Repossessed || e.Env >= api.MaxEnvs || e.Frame >= api.MaxFrames {
			return "", api.ErrForm
		}
		text.WriteString(words[e.Kind-api.Granted])
		text.WriteString(" " + strconv.Itoa(int(e.Env)))
		text.WriteString(" " + strconv.Itoa(int(e.Frame)) + feed)
	}
	return text.String(), api.OK
}

// Parse are the events that lines say. A line is read with what could be taken for a number; what is printed of it tells whether it was as it must be.
func Parse(s string) ([]api.Event, api.Errno) {
	var l []api.Event
	for line := range strings.Lines(s) {
		e, ok := read(strings.TrimSuffix(line, feed))
		if !ok || len(l) == longest {
			return nil, api.ErrForm
		}
		l = append(l, e)
	}
	if text, e := Print(l); e != api.OK || text != s {
		return nil, api.ErrForm
	}
	return l, api.OK
}

// read is the event that a line tells; false: it tells none.
func read(line string) (api.Event, bool) {
	first, rest, _ := strings.Cut(line, " ")
	second, third, _ := strings.Cut(rest, " ")
	kind, known := kindOf(first)
	env, e := strconv.ParseUint(second, 10, 8)
	frame, f := strconv.ParseUint(third, 10, 8)
	return api.Event{Kind: kind, Env: uint8(env), Frame: uint8(frame)}, known && e == nil && f == nil
}

// kindOf is the kind that a word tells; false: it tells none.
func kindOf(word string) (api.EventKind, bool) {
	for n, w := range words {
		if w == word {
			return api.Granted + api.EventKind(n), true
		}
	}
	return api.NoEvent, false
}
