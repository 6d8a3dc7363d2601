package cpu

import (
	"strconv"
	"strings"

	"embrasure/api"
	"embrasure/word"
)

// texts are those of Pc and of the registers, one by one.
type texts [1 + api.Registers]string

func show(s api.Regs) texts {
	t := texts{"pc=" + word.Hex(s.Pc)}
	for r, w := range s.R {
		t[1+r] = "r" + strconv.Itoa(r) + "=" + word.Hex(w)
	}
	return t
}

// Print are registers as text.
func Print(s api.Regs) string {
	t := show(s)
	return strings.Join(t[:], " ")
}

// Parse are the registers that a text says.
func Parse(t string) (api.Regs, api.Errno) {
	var parts texts
	l := strings.Split(t, " ")
	if len(l) != len(parts) {
		return api.Regs{}, api.ErrForm
	}
	copy(parts[:], l)
	s := api.Regs{Pc: value(parts[0])}
	for r := range s.R {
		s.R[r] = value(parts[1+r])
	}
	// What value made of a text of another form is not shown as that text.
	if show(s) != parts {
		return api.Regs{}, api.ErrForm
	}
	return s, api.OK
}

// value is what the digits behind = say; 0, if they are none.
func value(t string) api.Word {
	_, digits, _ := strings.Cut(t, "=")
	w, _ := word.Parse("x" + digits)
	return w
}
