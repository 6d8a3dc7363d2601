package asm

import "strings"

const (
	feed   = '\n'
	remark = ";"
	blanks = " \t"
)

// Lines are a text's lines, without remarks, and without blanks around.
func Lines(text string) []string {
	var l []string
	start := 0
	for i, r := range text {
		if r == feed {
			l = append(l, strip(text[start:i]))
			start = i + 1
		}
	}
	return append(l, strip(text[start:]))
}

func strip(line string) string {
	line, _, _ = strings.Cut(line, remark)
	return strings.Trim(line, blanks)
}

// words are cut where the document says, not where unicode knows other blanks.
func words(line string) []string {
	var l []string
	start := 0
	for i, r := range line {
		if !strings.ContainsRune(blanks, r) {
			continue
		}
		if start < i {
			l = append(l, line[start:i])
		}
		start = i + 1
	}
	if start < len(line) {
		l = append(l, line[start:])
	}
	return l
}
