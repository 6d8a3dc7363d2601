package script

import (
	"strconv"
	"strings"

	"embrasure/api"
)

// The parts of a call that stand behind its word, by signs.
const (
	partPid  = 'p'
	partN    = 'n'
	partM    = 'm'
	partText = 't'
)

// shape is a call's word, and its parts in the order in which they stand behind it.
type shape struct {
	word, parts string
}

// shapes are those of the calls, by their kinds.
var shapes = [api.Posixes]shape{
	api.ForkIt:   {"fork", "p"},
	api.ExitIt:   {"exit", "pn"},
	api.WaitIt:   {"wait", "p"},
	api.KillIt:   {"kill", "pn"},
	api.PokeIt:   {"poke", "pnm"},
	api.PeekIt:   {"peek", "pn"},
	api.PipeIt:   {"pipe", "p"},
	api.OpenIt:   {"open", "ptm"},
	api.ReadIt:   {"read", "pmn"},
	api.WriteIt:  {"write", "pmt"},
	api.SeekIt:   {"seek", "pmn"},
	api.DupIt:    {"dup", "pm"},
	api.CloseIt:  {"close", "pm"},
	api.UnlinkIt: {"unlink", "pt"},
}

// kindOf is the kind of call that has a word.
func kindOf(word string) (api.PosixKind, bool) {
	for kind := api.ForkIt; kind < api.Posixes; kind++ {
		if shapes[kind].word == word {
			return kind, true
		}
	}
	return api.NoPosix, false
}

// Call is the call of the library that words say; false: they say none.
func Call(words []string) (api.Posix, bool) {
	if len(words) == 0 {
		return api.Posix{}, false
	}
	kind, ok := kindOf(words[0])
	words = words[1:]
	if !ok || len(words) != len(shapes[kind].parts) {
		return api.Posix{}, false
	}
	c := api.Posix{Kind: kind}
	for i, part := range shapes[kind].parts {
		if !lay(&c, part, words[i]) {
			return api.Posix{}, false
		}
	}
	return c, true
}

// lay lays what a word says into a part of a call; false: it may not stand there.
func lay(c *api.Posix, part rune, word string) bool {
	if part == partText {
		c.Text = word
		return word != "" && !strings.ContainsAny(word, blank+feed)
	}
	n, ok := number(word)
	*place(c, part) = n
	return ok
}

// place is where a call has a part that is a number.
func place(c *api.Posix, part rune) *int {
	switch part {
	case partPid:
		return &c.Pid
	case partN:
		return &c.N
	}
	return &c.M
}

// Print is a call as a line. What the line does not name, and what no word can be, is lost on the way through its words.
func Print(c api.Posix) (string, api.Errno) {
	words := said(c)
	if again, ok := Call(words); !ok || again != c {
		return "", api.ErrForm
	}
	return sys + blank + strings.Join(words, blank), api.OK
}

// said are the words that say a call, as far as there are such; of a kind that is none there are none.
func said(c api.Posix) []string {
	if c.Kind == api.NoPosix || c.Kind >= api.Posixes {
		return nil
	}
	s := shapes[c.Kind]
	words := []string{s.word}
	for _, part := range s.parts {
		if part == partText {
			words = append(words, c.Text)
		} else {
			words = append(words, strconv.Itoa(*place(&c, part)))
		}
	}
	return words
}
