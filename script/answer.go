package script

import (
	"strconv"
	"strings"

	"embrasure/api"
	"embrasure/word"
)

// done is what a line answers that has no more to tell.
const done = "ok"

// failed is what a line answers that came to an error.
func failed(e api.Errno) string {
	return "error " + strconv.Itoa(int(e))
}

// unless is an answer, unless there is an error.
func unless(e api.Errno, answer string) string {
	if e != api.OK {
		return failed(e)
	}
	return answer
}

// replied is what a call's line answers.
func replied(r api.Reply) string {
	answer := done
	if r.N != 0 {
		answer += blank + strconv.Itoa(r.N)
	}
	if r.Text != "" {
		answer += blank + masked(r.Text)
	}
	return unless(r.Errno, answer)
}

// masked is a text without what could be taken for the end of a word or of a line, or be seen by nobody.
func masked(text string) string {
	var b strings.Builder
	for i := range len(text) {
		if one := text[i]; one > ' ' && one <= '~' && one != '%' {
			b.WriteByte(one)
		} else {
			b.WriteString("%" + word.Hex(api.Word(one))[2:])
		}
	}
	return b.String()
}

// listed are things as words, with a blank between.
func listed[T any](l []T, show func(T) string) string {
	if len(l) == 0 {
		return "-"
	}
	var words []string
	for _, one := range l {
		words = append(words, show(one))
	}
	return strings.Join(words, blank)
}

func kind(s api.Step) string {
	return strconv.Itoa(int(s.Kind))
}

func frame(f uint8) string {
	return strconv.Itoa(int(f))
}

func mapping(m api.Mapping) string {
	text := strconv.Itoa(int(m.Page)) + ":" + frame(m.Frame)
	if m.Write {
		text += "w"
	}
	return text
}
