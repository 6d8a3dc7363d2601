package name

import (
	"strings"

	"embrasure/api"
)

// The letters stand as the bits of api's rights do, the lowest one first.
const (
	rightLetters = "rwxgd"
	noRights     = "-"
)

// Rights are rights as letters.
func Rights(r uint8) (string, api.Errno) {
	if r > api.AllRights {
		return "", api.ErrForm
	}
	if r == 0 {
		return noRights, api.OK
	}
	var text strings.Builder
	for i, letter := range rightLetters {
		if r>>i&1 == 1 {
			text.WriteRune(letter)
		}
	}
	return text.String(), api.OK
}

// ReadRights are the rights that letters say.
func ReadRights(s string) (uint8, api.Errno) {
	if s == noRights {
		return 0, api.OK
	}
	var rights uint8
	for _, letter := range s {
		right := rightOf(letter)
		// A bit is greater than all lower ones together: this refuses a wrong order, a letter twice, and, as it has no bit, a strange letter.
		if right <= rights {
			return 0, api.ErrForm
		}
		rights |= right
	}
	if rights == 0 {
		return 0, api.ErrForm
	}
	return rights, api.OK
}

// rightOf is a letter's bit; 0 of a strange one.
func rightOf(letter rune) uint8 {
	for i, l := range rightLetters {
		if l == letter {
			return 1 << i
		}
	}
	return 0
}

// Right tells whether a capability is right.
func Right(c api.Cap) bool {
	_, e := Split(c.Name)
	return e == api.OK && c.Rights <= api.AllRights
}

// Opens tells whether a capability opens what a guard guards.
func Opens(c, guard api.Cap) bool {
	return Right(c) && Right(guard) && Above(c.Name, guard.Name) && guard.Rights&^c.Rights == 0
}

// Restrict is a capability with no rights but some.
func Restrict(c api.Cap, rights uint8) (api.Cap, api.Errno) {
	if !Right(c) || rights > api.AllRights {
		return api.Cap{}, api.ErrForm
	}
	return api.Cap{Name: c.Name, Rights: c.Rights & rights}, api.OK
}

// Derive is a capability one label below.
func Derive(c api.Cap, label string) (api.Cap, api.Errno) {
	if !Right(c) || !Label(label) {
		return api.Cap{}, api.ErrForm
	}
	if c.Rights&api.Grant == 0 {
		return api.Cap{}, api.ErrPerm
	}
	child, e := Child(c.Name, label)
	if e != api.OK {
		return api.Cap{}, e
	}
	return api.Cap{Name: child, Rights: c.Rights}, api.OK
}

// Encode are a capability's bytes. A name's length fits in one: it has at most MaxDepth labels of MaxLabel letters of two bytes.
func Encode(c api.Cap) ([]byte, api.Errno) {
	if !Right(c) {
		return nil, api.ErrForm
	}
	head := []byte{c.Rights, byte(len(c.Name))}
	return append(head, c.Name...), api.OK
}

// Decode is the capability that bytes say.
func Decode(b []byte) (api.Cap, api.Errno) {
	if len(b) < 2 || int(b[1]) != len(b)-2 {
		return api.Cap{}, api.ErrForm
	}
	c := api.Cap{Name: string(b[2:]), Rights: b[0]}
	if !Right(c) {
		return api.Cap{}, api.ErrForm
	}
	return c, api.OK
}

// Print is a capability as text.
func Print(c api.Cap) (string, api.Errno) {
	rights, _ := Rights(c.Rights)
	if !Right(c) {
		return "", api.ErrForm
	}
	return c.Name + " " + rights, api.OK
}

// Parse is the capability that a text says. No name has a blank, so the first one is the one between the parts.
func Parse(s string) (api.Cap, api.Errno) {
	name, letters, _ := strings.Cut(s, " ")
	rights, e := ReadRights(letters)
	if e != api.OK {
		return api.Cap{}, e
	}
	c := api.Cap{Name: name, Rights: rights}
	if !Right(c) {
		return api.Cap{}, api.ErrForm
	}
	return c, api.OK
}
