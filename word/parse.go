package word

import (
	"strings"
	"unicode/utf8"

	"embrasure/api"
)

// Parse is the word that a text says.
func Parse(s string) (api.Word, api.Errno) {
	n, ok := number(s)
	if !ok {
		return 0, api.ErrForm
	}
	a, ok := From(n)
	if !ok {
		return 0, api.ErrForm
	}
	return a, api.OK
}

// number tells the forms apart by their first byte, which no two of them share.
func number(s string) (int, bool) {
	if s == "" {
		return 0, false
	}
	switch s[0] {
	case 'x':
		return hexDigits(s[1:])
	case '\'':
		return sign(s[1:])
	case '-':
		n, ok := digits(s[1:])
		return -n, ok && n > 0
	}
	return digits(s)
}

// digits gives up as soon as no word is so great, so that a text of any length is read without going round.
func digits(s string) (int, bool) {
	if s == "" || s[0] == '0' && len(s) > 1 {
		return 0, false
	}
	n := 0
	for _, r := range s {
		if r < '0' || r > '9' {
			return 0, false
		}
		n = n*10 + int(r-'0')
		if n > most {
			return 0, false
		}
	}
	return n, true
}

func hexDigits(s string) (int, bool) {
	if s == "" || len(s) > 4 {
		return 0, false
	}
	n := 0
	for _, r := range s {
		digit := strings.IndexRune(letters, r)
		if digit < 0 {
			return 0, false
		}
		n = n*16 + digit
	}
	return n, true
}

// sign reads what stands behind the first quote.
func sign(s string) (int, bool) {
	body, closed := strings.CutSuffix(s, "'")
	// A range reads a broken byte as U+FFFD, which, whole, is a sign like others.
	if !closed || body == "" || !utf8.ValidString(body) {
		return 0, false
	}
	n := 0
	for i, r := range body {
		if i > 0 || r < ' ' || r > most || r == '\'' {
			return 0, false
		}
		n = int(r)
	}
	return n, true
}
